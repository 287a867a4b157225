/- RChain: the specification's Chain, and both Chains in the law's words; written by wip/tools/rchain3.py. -/
import Derived.Test.YticeekkfdkfcgaaRBroken
namespace Go.Proofs.Yticeekkfdkfcgaa
open Go.RowKit

/-- one step of the way back -/
def nextP (adj : Nat → Nat → Bool) (back a m : Nat) : Bool := dig back m + 1 == dig back a && adj a m
def noneTo (adj : Nat → Nat → Bool) (back a k : Nat) : Prop := (List.range k).find? (nextP adj back a) = none
theorem noneTo_succ {adj : Nat → Nat → Bool} {back a k : Nat} (h : noneTo adj back a k) (hk : nextP adj back a k = false) : noneTo adj back a (k + 1) := by
  unfold noneTo at *
  rw [List.range_succ, List.find?_append, h]
  simp [hk]
theorem next_all {n : Nat} {adj : Nat → Nat → Bool} {back a : Nat} (h : noneTo adj back a n) : nextC n adj back a = none := h
theorem next_hit {n : Nat} {adj : Nat → Nat → Bool} {back a k : Nat} (h : noneTo adj back a k) (hk : nextP adj back a k = true) (hn : k < n) : nextC n adj back a = some k := by
  have e : List.range n = List.range (k + 1) ++ (List.range (n - (k + 1))).map (fun x => k + 1 + x) := by
    rw [← List.range_add]; congr 1; omega
  show (List.range n).find? (nextP adj back a) = some k
  unfold noneTo at h
  rw [e, List.find?_append, List.range_succ, List.find?_append, h]
  simp [hk]
theorem walkC_end {n : Nat} {adj : Nat → Nat → Bool} {back dst f : Nat} {out L : List Nat} (h : walkC n adj back dst f dst out = some L) : out = L := by
  cases f with
  | zero => cases h
  | succ f =>
    unfold walkC at h
    rw [show (dst == dst) = true from beq_self_eq_true _] at h
    exact Option.some.inj h
theorem walkC_on {n : Nat} {adj : Nat → Nat → Bool} {back dst f a : Nat} {out L : List Nat} (h : walkC n adj back dst f a out = some L) (hne : a ≠ dst) : ∃ f' m, f = f' + 1 ∧ nextC n adj back a = some m ∧ walkC n adj back dst f' m (out ++ [m]) = some L := by
  cases f with
  | zero => cases h
  | succ f =>
    unfold walkC at h
    rw [show (a == dst) = false by simpa using hne] at h
    cases hm : nextC n adj back a with
    | none => rw [hm] at h; cases h
    | some m => rw [hm] at h; exact ⟨f, m, rfl, rfl, h⟩
theorem row_one (w : World) (t : TypeId) (u : Value) : (w.alloc (.cells #[u] t)).ownsRow w.heap.size t 1 (.slice (some ⟨w.heap.size, 0, none⟩) 1 1) 1 [u] :=
  ⟨rfl, .inr ⟨w.heap.size, 1, #[u], rfl, Nat.le_refl _, BlockIs.new w t #[u], Nat.le_refl _, by unfold maxLen; omega, rfl, rfl⟩⟩

set_option maxRecDepth 100000 in
set_option maxHeartbeats 16000000 in
theorem rChain_good (c : CrewR) (fr dst jf jk team n : Nat) (cl sz lv ls : Int) (ld : Bool) (w : World) (hA : CrewAt w w.heap.size c) (hl : c.people.length ≤ 8) (ht : team < 1024) (hn : c.languages = (n : Int)) (hn2 : 2 ≤ n) (hn5 : n ≤ 5) (hfn : fr < n) (hdn : dst < n) (hne : fr ≠ dst) (hv : ∀ x ∈ c.people, x.d.levels.length = n) (hjk : jk ≤ 3) (hlw : c.laws[jk]? = some ⟨lv, ls, ld⟩)
    (hCT : ∀ w0, Grow w w0 → Calls Try.prog 43 #[crewV c, jobV ⟨(fr : Nat), (dst : Nat), cl, (jf : Nat), (jk : Nat), sz⟩, .int .i64 (team : Nat)] w0 fun e w' => e = .returned (.int .i64 0) ∧ Below w0.heap.size w0 w') :
    Calls Try.prog 20 #[crewV c, jobV ⟨(fr : Nat), (dst : Nat), cl, (jf : Nat), (jk : Nat), sz⟩, .int .i64 (team : Nat)] w fun e w' => ∃ A cap, e = .returned (.tuple #[.slice A ((chainD n (fun a b => joinsL lv a b (membersL c.people team)) fr dst).getD []).length cap, .int .i64 (if chainD n (fun a b => joinsL lv a b (membersL c.people team)) fr dst = none then 3 else 0)]) ∧ Ints w' w'.heap.size A (natsL ((chainD n (fun a b => joinsL lv a b (membersL c.people team)) fr dst).getD [])) ∧ Below w.heap.size w w' := by
  obtain ⟨i0, hi, hz0, hz1, hz2⟩ := info_parts Try.infoInt
  have HCT := Lib.hid hCT
  have HLA := Lib.hid (fun (w0 : World) (hw : Grow w w0) => hA.2.below hw)
  have HFA := Lib.hid (fun (w0 : World) (hw : Grow w w0) => rFar_any c team n dst lv w0 ((hA.1.below hw).more hw.size) hl ht hn hn5 hdn hv)
  have HJ := Lib.hid (fun (a b : Nat) (ha : a < n) (hb : b < n) (w0 : World) (hw : Grow w w0) => rJoins_any c team a b lv w0 ((hA.1.below hw).more hw.size) hl ht (fun x hx => by rw [hv x hx]; exact ⟨ha, hb⟩))
  have HLW := Lib.hid hlw
  have HLN := Lib.hid hn
  have hsy : ∀ a b, joinsL lv a b (membersL c.people team) = joinsL lv b a (membersL c.people team) := fun a b => joinsL_symm lv (membersL c.people team) a b
  have HBN := Lib.hid (back_none hn2 hn5 (adj := fun a b => joinsL lv a b (membersL c.people team)) hsy hfn hdn hne)
  have HSA := Lib.hid (chain_facts hn2 hn5 (adj := fun a b => joinsL lv a b (membersL c.people team)) hsy hfn hdn hne).same
  obtain ⟨adj, hadj⟩ : ∃ z : Nat → Nat → Bool, (fun a b => joinsL lv a b (membersL c.people team)) = z := ⟨_, rfl⟩
  have HJA : Hid (∀ (a b : Nat), a < n → b < n → ∀ w0, Grow w w0 → Calls Try.prog 36 #[crewV c, .int .i64 (team : Nat), .int .i64 lv, .int .i64 (a : Nat), .int .i64 (b : Nat)] w0 fun e w' => e = .returned (.bool (adj a b)) ∧ Below w0.heap.size w0 w') := Lib.hid (by rw [← hadj]; exact HJ.out)
  rw [hadj] at HBN HSA HFA
  rw [hadj]
  have HRC : Hid (rChainD n adj fr dst = bif dig (farD n adj dst) fr == 0 then none else walkC n adj (farD n adj dst) dst 6 fr [fr]) := Lib.hid rfl
  obtain ⟨res, hres⟩ : ∃ z, chainD n adj fr dst = z := ⟨_, rfl⟩
  obtain ⟨fd, hfd⟩ : ∃ z, farD n adj dst = z := ⟨_, rfl⟩
  rw [hres, hfd] at HBN
  rw [hres] at HSA ⊢
  rw [hfd] at HFA HRC
  have HWK : Hid (dig fd fr ≠ 0 → ∃ L, res = some L ∧ walkC n adj fd dst 6 fr [fr] = some L) := Lib.hid (fun h => by
    have h1 : walkC n adj fd dst 6 fr [fr] = res := by
      rw [HSA.out, HRC.out, show (dig fd fr == 0) = false by simpa using h]; rfl
    cases hr : res with
    | none => exact absurd (HBN.out.2 hr) h
    | some L => exact ⟨L, rfl, by rw [h1, hr]⟩)
  have hl4 : jk < c.laws.length := lt_of_at hlw
  obtain ⟨PO, hPO⟩ : ∃ z : Ending → World → Prop, (fun e w' => ∃ A cap, e = Ending.returned (.tuple #[.slice A (res.getD []).length cap, .int .i64 (if res = none then 3 else 0)]) ∧ Ints w' w'.heap.size A (natsL (res.getD [])) ∧ Below w.heap.size w w') = z := ⟨_, rfl⟩
  have HP3 : Hid (res = none → ∀ w', Below w.heap.size w w' → PO (Ending.returned (.tuple #[.slice none 0 0, .int .i64 3])) w') := Lib.hid (fun h w' hb => by
    rw [← hPO, h]
    exact ⟨none, 0, rfl, .inl rfl, hb⟩)
  have HP0 : Hid (∀ (L : List Nat) (A : Option Addr) (m cp : Nat) (w' : World), res = some L → m = L.length → Ints w' w'.heap.size A (natsL L) → Below w.heap.size w w' → PO (Ending.returned (.tuple #[.slice A m cp, .int .i64 0])) w') := Lib.hid (fun L A m cp w' h hm hi hb => by
    rw [← hPO, h, hm]
    exact ⟨A, cp, rfl, hi, hb⟩)
  rw [hPO]
  clear hA hn hv hlw hadj HJ hsy hCT hres hfd hne HSA HRC hPO
  go_enter Try.func20, Try.ntmps20
  go_upto_region 1 with fail
  obtain ⟨W, hW, hg, hfr, hs1, hsz⟩ := two_blocks w 25 27 (cellsC c) (cellsJ ⟨(fr : Nat), (dst : Nat), cl, (jf : Nat), (jk : Nat), sz⟩)
  rw [hW]
  clear hW
  have HG := Lib.hid hg
  have HF := Lib.hid hfr
  have HS := Lib.hid hs1
  have hcc := hfr.cell
  have hjc := hs1.cell
  clear hg hfr hs1 hsz
  go_wp2_with fail
  refine (HCT.out W HG.out).mono ?_
  rintro e w1 ⟨rfl, hb1⟩
  have HG1 : Hid (Grow W w1) := hb1
  have hcc1 := (HG1.out.block HF.out).cell
  have hjc1 := (HG1.out.block HS.out).cell
  obtain ⟨lb, lo, lx, hla, hlb, hlc, HLX⟩ := (HLA.out w1 (HG.out.trans HG1.out)).at_ hl4
  obtain rfl : lx = ⟨lv, ls, ld⟩ := by
    have h := HLX.out
    rw [HLW.out] at h
    exact (Option.some.inj h).symm
  have l0 := hlc 0 (by omega)
  rw [Nat.add_zero] at l0
  have hk0 : (0 : Int) ≤ (jk : Int) := by omega
  have hk1 : (jk : Int) < (c.laws.length : Int) := by omega
  have HFB : Hid (Calls Try.prog 46 #[.agg #[.int .i64 c.languages, .slice c.pa c.people.length c.pc, .slice (some ⟨lb, lo, none⟩) c.laws.length c.wc], .int .i64 (team : Nat), .int .i64 lv, .int .i64 (dst : Nat)] w1 fun e w' => ∃ g cap, e = .returned (.slice (some ⟨g, 0, none⟩) n cap) ∧ w1.heap.size ≤ g ∧ FarAt w' g n fd ∧ Below w1.heap.size w1 w') := Lib.hid (by rw [← hla]; exact HFA.out w1 (HG.out.trans HG1.out))
  clear hb1 hcc hjc hlc HLX HLW HLA hlb HCT
  go_wp2_with fail
  refine HFB.out.mono ?_
  rintro e w2 ⟨g, cap, rfl, hge, hfa, hb2⟩
  have HFR := Lib.hid hfa
  have HG2 : Hid (Grow w1 w2) := hb2
  have hcc2 := ((HG1.out.trans HG2.out).block HF.out).cell
  have hjc2 := ((HG1.out.trans HG2.out).block HS.out).cell
  have cfr := hfa.cell hfn
  have hf0 : (0 : Int) ≤ (fr : Int) := by omega
  have hf1 : (fr : Int) < (n : Int) := by omega
  clear hfa hb2 hcc1 hjc1 l0 hla hk0 hk1 HFA HFB hge
  by_cases h0 : dig fd fr = 0
  · have HNO := Lib.hid (HBN.out.1 h0)
    rw [h0] at cfr
    have hdd : decide ((((0 : Nat) : Int) - 1) < 0) = true := by decide
    go_wp2
    exact HP3.out HNO.out _ (HG.out.trans (HG1.out.trans HG2.out))
  · obtain ⟨L, hres, hwk⟩ := HWK.out h0
    have HRS := Lib.hid hres
    have HWL := Lib.hid hwk
    have hdd : decide ((dig fd fr : Int) - 1 < 0) = false := decide_eq_false (by omega)
    obtain ⟨xf, hxf⟩ : ∃ z, (dig fd fr : Int) - 1 = z := ⟨_, rfl⟩
    rw [hxf] at cfr hdd
    clear hwk HWK HBN h0 hxf hres HP3
    go_upto_region 9 with fail
    obtain ⟨w3, hw3, hg3, hf3, hz3⟩ := one_block w2 3 #[.int .i64 (fr : Nat)]
    have HOW0 : Hid (w3.ownsRow w2.heap.size 3 1 (.slice (some ⟨w2.heap.size, 0, none⟩) 1 1) 1 ((natsL [fr]).map (Value.int .i64))) := Lib.hid (by rw [← hw3]; exact row_one _ _ _)
    rw [hw3]
    have HG3 := Lib.hid hg3
    have hjc3 := ((HG1.out.trans (HG2.out.trans hg3)).block HS.out).cell
    clear hw3 hg3 hf3 hz3 hcc2 hjc2 cfr hdd hf0 hf1
    go_upto_region 10 with fail
    clear hjc3
    go_loopw [11, 12] (fun ov av wr => ∃ (a f m : Nat) (l : List Nat) (A : Option Addr) (cp : Nat), a < n ∧ av = .int .i64 a ∧ ov = .slice A m cp ∧ Hid (m = l.length) ∧ f + m = 7 ∧ Hid (walkC n adj fd dst f a l = some L) ∧ wr.ownsRow w2.heap.size 3 1 (.slice A m cp) m ((natsL l).map (Value.int .i64)) ∧ Grow w2 wr) (fun _ v _ => dig fd (intOf v).toNat)
    case atStart => exact ⟨fr, 6, 1, [fr], some ⟨w2.heap.size, 0, none⟩, 1, hfn, rfl, rfl, rfl, rfl, HWL.out, HOW0.out, HG3.out⟩
    case round =>
      obtain ⟨a, f, m, l, A, cp, han, rfl, rfl, HM, hfm, HWK, hown, hgr⟩ := hrel
      rename World => wr
      have HOW := Lib.hid hown
      have HGR := Lib.hid hgr
      have hjc := ((HG1.out.trans (HG2.out.trans hgr)).block HS.out).cell
      clear hown hgr HOW0 HG3 HWL
      by_cases had : a = dst
      · have HLL : Hid (l = L) := Lib.hid (by have h := HWK.out; rw [had] at h; exact walkC_end h)
        have hq : ((a : Int) != (dst : Int)) = false := by simp [had]
        clear had
        go_wp2
        exact HP0.out L A m cp _ HRS.out (by rw [HM.out, HLL.out]) (by rw [← HLL.out]; exact (own_ints HOW.out).1) (HG.out.trans (HG1.out.trans (HG2.out.trans HGR.out)))
      · have hq : ((a : Int) != (dst : Int)) = true := by simp; omega
        obtain ⟨f', m', hf', hm', hwk'⟩ := walkC_on HWK.out had
        have HNX := Lib.hid hm'
        have HW2 := Lib.hid hwk'
        have hff : f' + m = 6 := by omega
        clear hf' hm' hwk' had HWK
        go_upto_region 12 with fail
        clear hq hjc
        go_loopw [11, 12, 13] (fun ov av iv wx => ov = .slice A m cp ∧ av = .int .i64 a ∧ ∃ k : Nat, k ≤ n ∧ iv = .int .i64 k ∧ Hid (noneTo adj fd a k) ∧ Grow wr wx) (fun _ _ v _ => n - (intOf v).toNat)
        case atStart => exact ⟨rfl, rfl, 0, by omega, rfl, rfl, Grow.refl _⟩
        case round =>
          obtain ⟨rfl, rfl, k, hk, rfl, HNO, hgx⟩ := hrel
          rename World => wx
          have HGX := Lib.hid hgx
          have hcx := ((HG1.out.trans (HG2.out.trans (HGR.out.trans hgx))).block HF.out).cell
          clear hgx
          by_cases hlt : k < n
          · have hd : decide ((k : Int) < c.languages) = true := decide_eq_true (by rw [HLN.out]; omega)
            have HFW := Lib.hid (HFR.out.grow (HGR.out.trans HGX.out))
            have hk0 : (0 : Int) ≤ (k : Int) := by omega
            have hk1 : (k : Int) < (n : Int) := by omega
            have ha0 : (0 : Int) ≤ (a : Int) := by omega
            have ha1 : (a : Int) < (n : Int) := by omega
            have hlk := dig_lt fd k
            have hla := dig_lt fd a
            by_cases hqk : dig fd k + 1 = dig fd a
            · have HPK : Hid (nextP adj fd a k = adj a k) := Lib.hid (by unfold nextP; rw [show (dig fd k + 1 == dig fd a) = true by simpa using hqk]; rfl)
              have HCK := Lib.hid (HFW.out.cell hlt)
              have HCA := Lib.hid (HFW.out.cell han)
              have HJC := Lib.hid (fun w0 hw => HJA.out a k han hlt w0 hw)
              obtain ⟨q, hq⟩ : ∃ z, dig fd k = z := ⟨_, rfl⟩
              rw [← hqk, hq, show (((q + 1 : Nat) : Int) - 1) = (q : Int) by omega] at HCA
              have HLESS : Hid (dig fd k < dig fd a) := Lib.hid (by omega)
              rw [hq] at HCK hlk
              have hwq : IntKind.i64.wrap ((q : Int) - 1) = (q : Int) - 1 := IntWalk.i64_in _ (by omega)
              obtain ⟨ad, had⟩ : ∃ z, adj a k = z := ⟨_, rfl⟩
              rw [had] at HPK HJC
              clear hq had hqk hla
              go_upto_region 14 with fail
              clear hcx hd
              refine wp_region_lit 18 [[], [], [(0, 55), (1, 56)], [(2, 57)], [], [], [(4, 59), (5, 60)], [(6, 61)], [(7, 62)], [(3, 58), (8, 63)], [(9, 64)], [(10, 65)], [(10, 65)], [(10, 65)], [(10, 65)], [(10, 65)], [(10, 65), (11, 66), (12, 67), (13, 68), (14, 69), (15, 70)], [(10, 65), (16, 71)]] Grow (fun qi v w' => match qi with
                  | 0 => v = .slice (some ⟨g, 0, none⟩) n cap
                  | 1 => v = .int .i64 (k : Nat)
                  | 2 => v = .pointer (some ⟨g, k, none⟩)
                  | 3 => v = .int .i64 ((q : Int) - 1)
                  | 4 => v = .slice (some ⟨g, 0, none⟩) n cap
                  | 5 => v = .int .i64 (a : Nat)
                  | 6 => v = .pointer (some ⟨g, a, none⟩)
                  | 7 => v = .int .i64 (q : Nat)
                  | 8 => v = .int .i64 ((q : Int) - 1)
                  | 9 => v = .bool true
                  | 10 => v = .bool true
                  | 11 => v = crewV c
                  | 12 => v = .int .i64 (team : Nat)
                  | 13 => v = .int .i64 lv
                  | 14 => v = .int .i64 (a : Nat)
                  | 15 => v = .int .i64 (k : Nat)
                  | 16 => v = .bool ad
                  | 17 => v = .bool ad
                  | _ => False) (by kernel_rfl) (by kernel_rfl) (fun _ _ _ => Grow.trans) Grow.refl ?_ ?_ ?_
              · intro i v y y' h k
                match i, h with
                | 0, h | 1, h | 2, h | 3, h | 4, h | 5, h | 6, h | 7, h | 8, h | 9, h | 10, h | 11, h | 12, h | 13, h | 14, h | 15, h | 16, h | 17, h => exact h
              · simp only [StepsLit, List.take_succ_cons, List.take_zero]
                refine ⟨?_, ?_, ?_, ?_, ?_, ?_, ?_, ?_, ?_, ?_, ?_, ?_, ?_, ?_, ?_, ?_, ?_, ?_, trivial⟩
                · intro w5 hR
                  have hGw : Grow wx w5 := hR.of_drew
                  have HGW := Lib.hid hGw
                  have cC := ((HG1.out.trans (HG2.out.trans (HGR.out.trans (HGX.out.trans HGW.out)))).block HF.out).cell
                  have ck := HGW.out.cell HCK.out
                  have ca := HGW.out.cell HCA.out
                  clear hR hGw
                  simp only [depV]
                  try go_simp
                  all_goals first
                    | (with_reducible exact Grow.refl _)
                    | (with_reducible exact ⟨Grow.refl _, rfl⟩)
                · intro w5 hR
                  have hGw : Grow wx w5 := hR.of_drew
                  have HGW := Lib.hid hGw
                  have cC := ((HG1.out.trans (HG2.out.trans (HGR.out.trans (HGX.out.trans HGW.out)))).block HF.out).cell
                  have ck := HGW.out.cell HCK.out
                  have ca := HGW.out.cell HCA.out
                  clear hR hGw
                  simp only [depV]
                  try go_simp
                  all_goals first
                    | (with_reducible exact Grow.refl _)
                    | (with_reducible exact ⟨Grow.refl _, rfl⟩)
                · intro w5 hR
                  have hGw : Grow wx w5 := hR.of_drew
                  have HGW := Lib.hid hGw
                  have cC := ((HG1.out.trans (HG2.out.trans (HGR.out.trans (HGX.out.trans HGW.out)))).block HF.out).cell
                  have ck := HGW.out.cell HCK.out
                  have ca := HGW.out.cell HCA.out
                  clear hR hGw
                  simp only [depV]
                  rintro _ rfl
                  rintro _ rfl
                  try go_simp
                  all_goals first
                    | (with_reducible exact Grow.refl _)
                    | (with_reducible exact ⟨Grow.refl _, rfl⟩)
                · intro w5 hR
                  have hGw : Grow wx w5 := hR.of_drew
                  have HGW := Lib.hid hGw
                  have cC := ((HG1.out.trans (HG2.out.trans (HGR.out.trans (HGX.out.trans HGW.out)))).block HF.out).cell
                  have ck := HGW.out.cell HCK.out
                  have ca := HGW.out.cell HCA.out
                  clear hR hGw
                  simp only [depV]
                  rintro _ rfl
                  try go_simp
                  all_goals first
                    | (with_reducible exact Grow.refl _)
                    | (with_reducible exact ⟨Grow.refl _, rfl⟩)
                · intro w5 hR
                  have hGw : Grow wx w5 := hR.of_drew
                  have HGW := Lib.hid hGw
                  have cC := ((HG1.out.trans (HG2.out.trans (HGR.out.trans (HGX.out.trans HGW.out)))).block HF.out).cell
                  have ck := HGW.out.cell HCK.out
                  have ca := HGW.out.cell HCA.out
                  clear hR hGw
                  simp only [depV]
                  try go_simp
                  all_goals first
                    | (with_reducible exact Grow.refl _)
                    | (with_reducible exact ⟨Grow.refl _, rfl⟩)
                · intro w5 hR
                  have hGw : Grow wx w5 := hR.of_drew
                  have HGW := Lib.hid hGw
                  have cC := ((HG1.out.trans (HG2.out.trans (HGR.out.trans (HGX.out.trans HGW.out)))).block HF.out).cell
                  have ck := HGW.out.cell HCK.out
                  have ca := HGW.out.cell HCA.out
                  clear hR hGw
                  simp only [depV]
                  try go_simp
                  all_goals first
                    | (with_reducible exact Grow.refl _)
                    | (with_reducible exact ⟨Grow.refl _, rfl⟩)
                · intro w5 hR
                  have hGw : Grow wx w5 := hR.of_drew
                  have HGW := Lib.hid hGw
                  have cC := ((HG1.out.trans (HG2.out.trans (HGR.out.trans (HGX.out.trans HGW.out)))).block HF.out).cell
                  have ck := HGW.out.cell HCK.out
                  have ca := HGW.out.cell HCA.out
                  clear hR hGw
                  simp only [depV]
                  rintro _ rfl
                  rintro _ rfl
                  try go_simp
                  all_goals first
                    | (with_reducible exact Grow.refl _)
                    | (with_reducible exact ⟨Grow.refl _, rfl⟩)
                · intro w5 hR
                  have hGw : Grow wx w5 := hR.of_drew
                  have HGW := Lib.hid hGw
                  have cC := ((HG1.out.trans (HG2.out.trans (HGR.out.trans (HGX.out.trans HGW.out)))).block HF.out).cell
                  have ck := HGW.out.cell HCK.out
                  have ca := HGW.out.cell HCA.out
                  clear hR hGw
                  simp only [depV]
                  rintro _ rfl
                  try go_simp
                  all_goals first
                    | (with_reducible exact Grow.refl _)
                    | (with_reducible exact ⟨Grow.refl _, rfl⟩)
                · intro w5 hR
                  have hGw : Grow wx w5 := hR.of_drew
                  have HGW := Lib.hid hGw
                  have cC := ((HG1.out.trans (HG2.out.trans (HGR.out.trans (HGX.out.trans HGW.out)))).block HF.out).cell
                  have ck := HGW.out.cell HCK.out
                  have ca := HGW.out.cell HCA.out
                  clear hR hGw
                  simp only [depV]
                  rintro _ rfl
                  try go_simp
                  all_goals first
                    | (with_reducible exact Grow.refl _)
                    | (with_reducible exact ⟨Grow.refl _, rfl⟩)
                · intro w5 hR
                  have hGw : Grow wx w5 := hR.of_drew
                  have HGW := Lib.hid hGw
                  have cC := ((HG1.out.trans (HG2.out.trans (HGR.out.trans (HGX.out.trans HGW.out)))).block HF.out).cell
                  have ck := HGW.out.cell HCK.out
                  have ca := HGW.out.cell HCA.out
                  clear hR hGw
                  simp only [depV]
                  rintro _ rfl
                  rintro _ rfl
                  try go_simp
                  all_goals first
                    | (with_reducible exact Grow.refl _)
                    | (with_reducible exact ⟨Grow.refl _, rfl⟩)
                · intro w5 hR
                  have hGw : Grow wx w5 := hR.of_drew
                  have HGW := Lib.hid hGw
                  have cC := ((HG1.out.trans (HG2.out.trans (HGR.out.trans (HGX.out.trans HGW.out)))).block HF.out).cell
                  have ck := HGW.out.cell HCK.out
                  have ca := HGW.out.cell HCA.out
                  clear hR hGw
                  simp only [depV]
                  rintro _ rfl
                  try go_simp
                  all_goals first
                    | (with_reducible exact Grow.refl _)
                    | (with_reducible exact ⟨Grow.refl _, rfl⟩)
                · intro w5 hR
                  have hGw : Grow wx w5 := hR.of_drew
                  have HGW := Lib.hid hGw
                  have cC := ((HG1.out.trans (HG2.out.trans (HGR.out.trans (HGX.out.trans HGW.out)))).block HF.out).cell
                  have ck := HGW.out.cell HCK.out
                  have ca := HGW.out.cell HCA.out
                  clear hR hGw
                  simp only [depV]
                  rintro _ rfl
                  try go_simp
                  all_goals first
                    | (with_reducible exact Grow.refl _)
                    | (with_reducible exact ⟨Grow.refl _, rfl⟩)
                · intro w5 hR
                  have hGw : Grow wx w5 := hR.of_drew
                  have HGW := Lib.hid hGw
                  have cC := ((HG1.out.trans (HG2.out.trans (HGR.out.trans (HGX.out.trans HGW.out)))).block HF.out).cell
                  have ck := HGW.out.cell HCK.out
                  have ca := HGW.out.cell HCA.out
                  clear hR hGw
                  simp only [depV]
                  rintro _ rfl
                  try go_simp
                  all_goals first
                    | (with_reducible exact Grow.refl _)
                    | (with_reducible exact ⟨Grow.refl _, rfl⟩)
                · intro w5 hR
                  have hGw : Grow wx w5 := hR.of_drew
                  have HGW := Lib.hid hGw
                  have cC := ((HG1.out.trans (HG2.out.trans (HGR.out.trans (HGX.out.trans HGW.out)))).block HF.out).cell
                  have ck := HGW.out.cell HCK.out
                  have ca := HGW.out.cell HCA.out
                  clear hR hGw
                  simp only [depV]
                  rintro _ rfl
                  try go_simp
                  all_goals first
                    | (with_reducible exact Grow.refl _)
                    | (with_reducible exact ⟨Grow.refl _, rfl⟩)
                · intro w5 hR
                  have hGw : Grow wx w5 := hR.of_drew
                  have HGW := Lib.hid hGw
                  have cC := ((HG1.out.trans (HG2.out.trans (HGR.out.trans (HGX.out.trans HGW.out)))).block HF.out).cell
                  have ck := HGW.out.cell HCK.out
                  have ca := HGW.out.cell HCA.out
                  clear hR hGw
                  simp only [depV]
                  rintro _ rfl
                  try go_simp
                  all_goals first
                    | (with_reducible exact Grow.refl _)
                    | (with_reducible exact ⟨Grow.refl _, rfl⟩)
                · intro w5 hR
                  have hGw : Grow wx w5 := hR.of_drew
                  have HGW := Lib.hid hGw
                  have cC := ((HG1.out.trans (HG2.out.trans (HGR.out.trans (HGX.out.trans HGW.out)))).block HF.out).cell
                  have ck := HGW.out.cell HCK.out
                  have ca := HGW.out.cell HCA.out
                  clear hR hGw
                  simp only [depV]
                  rintro _ rfl
                  try go_simp
                  all_goals first
                    | (with_reducible exact Grow.refl _)
                    | (with_reducible exact ⟨Grow.refl _, rfl⟩)
                · intro w5 hR
                  have hGw : Grow wx w5 := hR.of_drew
                  have HGW := Lib.hid hGw
                  have cC := ((HG1.out.trans (HG2.out.trans (HGR.out.trans (HGX.out.trans HGW.out)))).block HF.out).cell
                  have ck := HGW.out.cell HCK.out
                  have ca := HGW.out.cell HCA.out
                  clear hR hGw
                  simp only [depV]
                  rintro _ rfl
                  rintro _ rfl
                  rintro _ rfl
                  rintro _ rfl
                  rintro _ rfl
                  rintro _ rfl
                  try go_simp
                  refine (HJC.out _ (HG.out.trans (HG1.out.trans (HG2.out.trans (HGR.out.trans (HGX.out.trans HGW.out)))))).mono ?_
                  rintro e w6 ⟨rfl, hg6⟩
                  exact ⟨hg6, rfl⟩
                · intro w5 hR
                  have hGw : Grow wx w5 := hR.of_drew
                  have HGW := Lib.hid hGw
                  have cC := ((HG1.out.trans (HG2.out.trans (HGR.out.trans (HGX.out.trans HGW.out)))).block HF.out).cell
                  have ck := HGW.out.cell HCK.out
                  have ca := HGW.out.cell HCA.out
                  clear hR hGw
                  simp only [depV]
                  rintro _ rfl
                  rintro _ rfl
                  try go_simp
                  all_goals first
                    | (with_reducible exact Grow.refl _)
                    | (with_reducible exact ⟨Grow.refl _, rfl⟩)
              · intro w5 hR
                have HG5 : Hid (Grow wx w5) := Lib.hid hR.of_drew
                clear hR
                simp only [finVC, List.take_succ_cons, List.take_zero, List.drop_succ_cons, List.drop_zero]
                rintro _ rfl
                rintro _ rfl
                rintro _ rfl
                rintro _ rfl
                rintro _ rfl
                rintro _ rfl
                rintro _ rfl
                rintro _ rfl
                rintro _ rfl
                rintro _ rfl
                rintro _ rfl
                rintro _ rfl
                rintro _ rfl
                rintro _ rfl
                rintro _ rfl
                rintro _ rfl
                rintro _ rfl
                rintro _ rfl
                simp only [Act.put, List.setIfInBounds_toArray, List.set_cons_succ, List.set_cons_zero]
                have HG6 : Hid (Grow wr w5) := Lib.hid (HGX.out.trans HG5.out)
                clear HG5
                simp only [wpList]
                cases ad with
                | true =>
                  have HHIT : Hid (m' = k) := Lib.hid (by
                    have h := next_hit (n := n) HNO.out HPK.out hlt
                    rw [HNX.out] at h
                    exact Option.some.inj h)
                  have HOW2 := Lib.hid (own_grow HOW.out (HG6.out.trans (Grow.alloc w5 (.cells #[.int .i64 (k : Nat)] 3))))
                  go_wp2_with (at_builtin; go_loud (refine wpList_append_own _ rfl _ _ 33 rfl w2.heap.size 3 i0 (.int .i64 0) 1 8 Try.underlying33 hi hz0 hz1 hz2 rfl (by omega) _ m ((natsL l).map (Value.int .i64)) rfl ?d0 ⟨w5.heap.size, 0, none⟩ 1 1 [.int .i64 (k : Nat)] rfl rfl ?d1 ?d2 ?d3 ?d4 ?d5 ?_))
                  case d0 => exact HOW2.out
                  case d1 => exact news_one (BlockIs.new _ _ _)
                  case d2 => simp [Value.oneCell']
                  case d3 => unfold maxLen; omega
                  case d4 => omega
                  case d5 => have h1 := HGR.out.size; have h2 := HG6.out.size; simp; omega
                  intro v' w7 hown hgr7 _
                  obtain ⟨Aw, cw, rfl⟩ := own_form hown
                  have HOW3 : Hid (w7.ownsRow w2.heap.size 3 1 (.slice Aw (m + 1) cw) (m + 1) ((natsL (l ++ [k])).map (Value.int .i64))) := Lib.hid (by
                    rw [natsL_snoc, List.map_append]
                    simpa using hown)
                  have HG7 : Hid (Grow w2 w7) := Lib.hid (below_grown (HGR.out.trans (HG6.out.trans (Grow.alloc _ _))) HOW2.out hgr7 (by have h1 := HGR.out.size; have h2 := HG6.out.size; simp; omega))
                  have HM3 : Hid (m + 1 = (l ++ [k]).length) := Lib.hid (by rw [List.length_append, ← HM.out]; rfl)
                  have HW3 : Hid (walkC n adj fd dst f' k (l ++ [k]) = some L) := Lib.hid (by have h := HW2.out; rwa [HHIT.out] at h)
                  clear hown hgr7 HOW2
                  go_wp2
                  go_roundw
                  case rel => exact ⟨k, f', m + 1, l ++ [k], Aw, cw, hlt, rfl, rfl, HM3.out, by omega, HW3.out, HOW3.out, HG7.out⟩
                  case measure => have h := HLESS.out; simpa [intOf] using h
                | false =>
                  have HNN := Lib.hid (noneTo_succ HNO.out HPK.out)
                  go_wp2
                  go_roundw
                  case rel => exact ⟨rfl, rfl, k + 1, by omega, by go_num, HNN.out, HG6.out⟩
                  case measure => simp [intOf]; omega
            · have HPK : Hid (nextP adj fd a k = false) := Lib.hid (by unfold nextP; rw [show (dig fd k + 1 == dig fd a) = false by simpa using hqk]; rfl)
              have HCK := Lib.hid (HFW.out.cell hlt)
              have HCA := Lib.hid (HFW.out.cell han)
              have hxe : (((dig fd k : Int) - 1) == ((dig fd a : Int) - 1 - 1)) = false := by simp; omega
              have hxb : -1 ≤ (dig fd a : Int) - 1 ∧ (dig fd a : Int) - 1 ≤ 15 := by omega
              obtain ⟨xk, hxk⟩ : ∃ z, (dig fd k : Int) - 1 = z := ⟨_, rfl⟩
              obtain ⟨xa, hxa⟩ : ∃ z, (dig fd a : Int) - 1 = z := ⟨_, rfl⟩
              rw [hxk] at HCK hxe
              rw [hxa] at HCA hxe hxb
              have hwq : IntKind.i64.wrap (xa - 1) = xa - 1 := IntWalk.i64_in _ (by omega)
              have HNN := Lib.hid (noneTo_succ HNO.out HPK.out)
              clear hxk hxa hqk hlk hla
              go_upto_region 14 with fail
              clear hcx hd
              refine wp_region_lit 18 [[], [], [(0, 55), (1, 56)], [(2, 57)], [], [], [(4, 59), (5, 60)], [(6, 61)], [(7, 62)], [(3, 58), (8, 63)], [(9, 64)], [(10, 65)], [(10, 65)], [(10, 65)], [(10, 65)], [(10, 65)], [(10, 65), (11, 66), (12, 67), (13, 68), (14, 69), (15, 70)], [(10, 65), (16, 71)]] Grow (fun qi v w' => match qi with
                  | 0 => v = .slice (some ⟨g, 0, none⟩) n cap
                  | 1 => v = .int .i64 (k : Nat)
                  | 2 => v = .pointer (some ⟨g, k, none⟩)
                  | 3 => v = .int .i64 xk
                  | 4 => v = .slice (some ⟨g, 0, none⟩) n cap
                  | 5 => v = .int .i64 (a : Nat)
                  | 6 => v = .pointer (some ⟨g, a, none⟩)
                  | 7 => v = .int .i64 xa
                  | 8 => v = .int .i64 (xa - 1)
                  | 9 => v = .bool false
                  | 10 => v = .bool false
                  | 11 => v = undef
                  | 12 => v = undef
                  | 13 => v = undef
                  | 14 => v = undef
                  | 15 => v = undef
                  | 16 => v = undef
                  | 17 => v = .bool false
                  | _ => False) (by kernel_rfl) (by kernel_rfl) (fun _ _ _ => Grow.trans) Grow.refl ?_ ?_ ?_
              · intro i v y y' h k
                match i, h with
                | 0, h | 1, h | 2, h | 3, h | 4, h | 5, h | 6, h | 7, h | 8, h | 9, h | 10, h | 11, h | 12, h | 13, h | 14, h | 15, h | 16, h | 17, h => exact h
              · simp only [StepsLit, List.take_succ_cons, List.take_zero]
                refine ⟨?_, ?_, ?_, ?_, ?_, ?_, ?_, ?_, ?_, ?_, ?_, ?_, ?_, ?_, ?_, ?_, ?_, ?_, trivial⟩
                · intro w5 hR
                  have hGw : Grow wx w5 := hR.of_drew
                  have HGW := Lib.hid hGw
                  have cC := ((HG1.out.trans (HG2.out.trans (HGR.out.trans (HGX.out.trans HGW.out)))).block HF.out).cell
                  have ck := HGW.out.cell HCK.out
                  have ca := HGW.out.cell HCA.out
                  clear hR hGw
                  simp only [depV]
                  try go_simp
                  all_goals first
                    | (with_reducible exact Grow.refl _)
                    | (with_reducible exact ⟨Grow.refl _, rfl⟩)
                · intro w5 hR
                  have hGw : Grow wx w5 := hR.of_drew
                  have HGW := Lib.hid hGw
                  have cC := ((HG1.out.trans (HG2.out.trans (HGR.out.trans (HGX.out.trans HGW.out)))).block HF.out).cell
                  have ck := HGW.out.cell HCK.out
                  have ca := HGW.out.cell HCA.out
                  clear hR hGw
                  simp only [depV]
                  try go_simp
                  all_goals first
                    | (with_reducible exact Grow.refl _)
                    | (with_reducible exact ⟨Grow.refl _, rfl⟩)
                · intro w5 hR
                  have hGw : Grow wx w5 := hR.of_drew
                  have HGW := Lib.hid hGw
                  have cC := ((HG1.out.trans (HG2.out.trans (HGR.out.trans (HGX.out.trans HGW.out)))).block HF.out).cell
                  have ck := HGW.out.cell HCK.out
                  have ca := HGW.out.cell HCA.out
                  clear hR hGw
                  simp only [depV]
                  rintro _ rfl
                  rintro _ rfl
                  try go_simp
                  all_goals first
                    | (with_reducible exact Grow.refl _)
                    | (with_reducible exact ⟨Grow.refl _, rfl⟩)
                · intro w5 hR
                  have hGw : Grow wx w5 := hR.of_drew
                  have HGW := Lib.hid hGw
                  have cC := ((HG1.out.trans (HG2.out.trans (HGR.out.trans (HGX.out.trans HGW.out)))).block HF.out).cell
                  have ck := HGW.out.cell HCK.out
                  have ca := HGW.out.cell HCA.out
                  clear hR hGw
                  simp only [depV]
                  rintro _ rfl
                  try go_simp
                  all_goals first
                    | (with_reducible exact Grow.refl _)
                    | (with_reducible exact ⟨Grow.refl _, rfl⟩)
                · intro w5 hR
                  have hGw : Grow wx w5 := hR.of_drew
                  have HGW := Lib.hid hGw
                  have cC := ((HG1.out.trans (HG2.out.trans (HGR.out.trans (HGX.out.trans HGW.out)))).block HF.out).cell
                  have ck := HGW.out.cell HCK.out
                  have ca := HGW.out.cell HCA.out
                  clear hR hGw
                  simp only [depV]
                  try go_simp
                  all_goals first
                    | (with_reducible exact Grow.refl _)
                    | (with_reducible exact ⟨Grow.refl _, rfl⟩)
                · intro w5 hR
                  have hGw : Grow wx w5 := hR.of_drew
                  have HGW := Lib.hid hGw
                  have cC := ((HG1.out.trans (HG2.out.trans (HGR.out.trans (HGX.out.trans HGW.out)))).block HF.out).cell
                  have ck := HGW.out.cell HCK.out
                  have ca := HGW.out.cell HCA.out
                  clear hR hGw
                  simp only [depV]
                  try go_simp
                  all_goals first
                    | (with_reducible exact Grow.refl _)
                    | (with_reducible exact ⟨Grow.refl _, rfl⟩)
                · intro w5 hR
                  have hGw : Grow wx w5 := hR.of_drew
                  have HGW := Lib.hid hGw
                  have cC := ((HG1.out.trans (HG2.out.trans (HGR.out.trans (HGX.out.trans HGW.out)))).block HF.out).cell
                  have ck := HGW.out.cell HCK.out
                  have ca := HGW.out.cell HCA.out
                  clear hR hGw
                  simp only [depV]
                  rintro _ rfl
                  rintro _ rfl
                  try go_simp
                  all_goals first
                    | (with_reducible exact Grow.refl _)
                    | (with_reducible exact ⟨Grow.refl _, rfl⟩)
                · intro w5 hR
                  have hGw : Grow wx w5 := hR.of_drew
                  have HGW := Lib.hid hGw
                  have cC := ((HG1.out.trans (HG2.out.trans (HGR.out.trans (HGX.out.trans HGW.out)))).block HF.out).cell
                  have ck := HGW.out.cell HCK.out
                  have ca := HGW.out.cell HCA.out
                  clear hR hGw
                  simp only [depV]
                  rintro _ rfl
                  try go_simp
                  all_goals first
                    | (with_reducible exact Grow.refl _)
                    | (with_reducible exact ⟨Grow.refl _, rfl⟩)
                · intro w5 hR
                  have hGw : Grow wx w5 := hR.of_drew
                  have HGW := Lib.hid hGw
                  have cC := ((HG1.out.trans (HG2.out.trans (HGR.out.trans (HGX.out.trans HGW.out)))).block HF.out).cell
                  have ck := HGW.out.cell HCK.out
                  have ca := HGW.out.cell HCA.out
                  clear hR hGw
                  simp only [depV]
                  rintro _ rfl
                  try go_simp
                  all_goals first
                    | (with_reducible exact Grow.refl _)
                    | (with_reducible exact ⟨Grow.refl _, rfl⟩)
                · intro w5 hR
                  have hGw : Grow wx w5 := hR.of_drew
                  have HGW := Lib.hid hGw
                  have cC := ((HG1.out.trans (HG2.out.trans (HGR.out.trans (HGX.out.trans HGW.out)))).block HF.out).cell
                  have ck := HGW.out.cell HCK.out
                  have ca := HGW.out.cell HCA.out
                  clear hR hGw
                  simp only [depV]
                  rintro _ rfl
                  rintro _ rfl
                  try go_simp
                  all_goals first
                    | (with_reducible exact Grow.refl _)
                    | (with_reducible exact ⟨Grow.refl _, rfl⟩)
                · intro w5 hR
                  have hGw : Grow wx w5 := hR.of_drew
                  have HGW := Lib.hid hGw
                  have cC := ((HG1.out.trans (HG2.out.trans (HGR.out.trans (HGX.out.trans HGW.out)))).block HF.out).cell
                  have ck := HGW.out.cell HCK.out
                  have ca := HGW.out.cell HCA.out
                  clear hR hGw
                  simp only [depV]
                  rintro _ rfl
                  try go_simp
                  all_goals first
                    | (with_reducible exact Grow.refl _)
                    | (with_reducible exact ⟨Grow.refl _, rfl⟩)
                · intro w5 hR
                  have hGw : Grow wx w5 := hR.of_drew
                  have HGW := Lib.hid hGw
                  have cC := ((HG1.out.trans (HG2.out.trans (HGR.out.trans (HGX.out.trans HGW.out)))).block HF.out).cell
                  have ck := HGW.out.cell HCK.out
                  have ca := HGW.out.cell HCA.out
                  clear hR hGw
                  simp only [depV]
                  rintro _ rfl
                  try go_simp
                  all_goals first
                    | (with_reducible exact Grow.refl _)
                    | (with_reducible exact ⟨Grow.refl _, rfl⟩)
                · intro w5 hR
                  have hGw : Grow wx w5 := hR.of_drew
                  have HGW := Lib.hid hGw
                  have cC := ((HG1.out.trans (HG2.out.trans (HGR.out.trans (HGX.out.trans HGW.out)))).block HF.out).cell
                  have ck := HGW.out.cell HCK.out
                  have ca := HGW.out.cell HCA.out
                  clear hR hGw
                  simp only [depV]
                  rintro _ rfl
                  try go_simp
                  all_goals first
                    | (with_reducible exact Grow.refl _)
                    | (with_reducible exact ⟨Grow.refl _, rfl⟩)
                · intro w5 hR
                  have hGw : Grow wx w5 := hR.of_drew
                  have HGW := Lib.hid hGw
                  have cC := ((HG1.out.trans (HG2.out.trans (HGR.out.trans (HGX.out.trans HGW.out)))).block HF.out).cell
                  have ck := HGW.out.cell HCK.out
                  have ca := HGW.out.cell HCA.out
                  clear hR hGw
                  simp only [depV]
                  rintro _ rfl
                  try go_simp
                  all_goals first
                    | (with_reducible exact Grow.refl _)
                    | (with_reducible exact ⟨Grow.refl _, rfl⟩)
                · intro w5 hR
                  have hGw : Grow wx w5 := hR.of_drew
                  have HGW := Lib.hid hGw
                  have cC := ((HG1.out.trans (HG2.out.trans (HGR.out.trans (HGX.out.trans HGW.out)))).block HF.out).cell
                  have ck := HGW.out.cell HCK.out
                  have ca := HGW.out.cell HCA.out
                  clear hR hGw
                  simp only [depV]
                  rintro _ rfl
                  try go_simp
                  all_goals first
                    | (with_reducible exact Grow.refl _)
                    | (with_reducible exact ⟨Grow.refl _, rfl⟩)
                · intro w5 hR
                  have hGw : Grow wx w5 := hR.of_drew
                  have HGW := Lib.hid hGw
                  have cC := ((HG1.out.trans (HG2.out.trans (HGR.out.trans (HGX.out.trans HGW.out)))).block HF.out).cell
                  have ck := HGW.out.cell HCK.out
                  have ca := HGW.out.cell HCA.out
                  clear hR hGw
                  simp only [depV]
                  rintro _ rfl
                  try go_simp
                  all_goals first
                    | (with_reducible exact Grow.refl _)
                    | (with_reducible exact ⟨Grow.refl _, rfl⟩)
                · intro w5 hR
                  have hGw : Grow wx w5 := hR.of_drew
                  have HGW := Lib.hid hGw
                  have cC := ((HG1.out.trans (HG2.out.trans (HGR.out.trans (HGX.out.trans HGW.out)))).block HF.out).cell
                  have ck := HGW.out.cell HCK.out
                  have ca := HGW.out.cell HCA.out
                  clear hR hGw
                  simp only [depV]
                  rintro _ rfl
                  rintro _ rfl
                  rintro _ rfl
                  rintro _ rfl
                  rintro _ rfl
                  rintro _ rfl
                  try go_simp
                  all_goals first
                    | (with_reducible exact Grow.refl _)
                    | (with_reducible exact ⟨Grow.refl _, rfl⟩)
                · intro w5 hR
                  have hGw : Grow wx w5 := hR.of_drew
                  have HGW := Lib.hid hGw
                  have cC := ((HG1.out.trans (HG2.out.trans (HGR.out.trans (HGX.out.trans HGW.out)))).block HF.out).cell
                  have ck := HGW.out.cell HCK.out
                  have ca := HGW.out.cell HCA.out
                  clear hR hGw
                  simp only [depV]
                  rintro _ rfl
                  rintro _ rfl
                  try go_simp
                  all_goals first
                    | (with_reducible exact Grow.refl _)
                    | (with_reducible exact ⟨Grow.refl _, rfl⟩)
              · intro w5 hR
                have HG5 : Hid (Grow wx w5) := Lib.hid hR.of_drew
                clear hR
                simp only [finVC, List.take_succ_cons, List.take_zero, List.drop_succ_cons, List.drop_zero]
                rintro _ rfl
                rintro _ rfl
                rintro _ rfl
                rintro _ rfl
                rintro _ rfl
                rintro _ rfl
                rintro _ rfl
                rintro _ rfl
                rintro _ rfl
                rintro _ rfl
                rintro _ rfl
                rintro _ rfl
                rintro _ rfl
                rintro _ rfl
                rintro _ rfl
                rintro _ rfl
                rintro _ rfl
                rintro _ rfl
                simp only [Act.put, List.setIfInBounds_toArray, List.set_cons_succ, List.set_cons_zero]
                have HG6 : Hid (Grow wr w5) := Lib.hid (HGX.out.trans HG5.out)
                clear HG5
                simp only [wpList]
                go_wp2
                go_roundw
                case rel => exact ⟨rfl, rfl, k + 1, by omega, by go_num, HNN.out, HG6.out⟩
                case measure => simp [intOf]; omega
          · exfalso
            have hke : k = n := by omega
            have h := HNO.out
            rw [hke] at h
            have h2 := HNX.out
            rw [next_all h] at h2
            cases h2

/-- the error and the result of Chain -/
def chE (c : CrewR) (j : JobD) (team : Int) : Int := if teamErr c.d j team ≠ 0 then teamErr c.d j team else if chainT c j team.toNat = none then 3 else 0
def chL (c : CrewR) (j : JobD) (team : Int) : List Nat := if teamErr c.d j team ≠ 0 then [] else (chainT c j team.toNat).getD []
theorem chainApi_flat (c : CrewR) (j : JobD) (team : Int) (n : Nat) (w : World) (hA : CrewAt w n c) (hn : n ≤ w.heap.size) (hs : Short c) :
    Calls Try.prog 19 #[crewV c, jobV j, .int .i64 team] w fun e w' => ∃ A cap, e = .returned (.tuple #[.slice A (chL c j team).length cap, .int .i64 (chE c j team)]) ∧ Ints w' w'.heap.size A (natsL (chL c j team)) ∧ Below w.heap.size w w' := by
  refine (chainApi_any c j team n w hA hn hs).mono ?_
  rintro e w' ⟨v, er, rfl, h1, h2, hb⟩
  unfold chE chL
  by_cases h0 : teamErr c.d j team = 0
  · rw [if_neg (by simp [h0]), if_neg (by simp [h0])]
    obtain ⟨rfl, hc⟩ := h2 h0
    cases hr : chainT c j team.toNat with
    | none => exact ⟨none, 0, by rw [hc.1 hr]; rfl, .inl rfl, hb⟩
    | some l =>
      obtain ⟨b, cp, rfl, hi, _⟩ := hc.2 l hr
      exact ⟨some ⟨b, 0, none⟩, cp, rfl, hi, hb⟩
  · rw [if_pos h0, if_pos h0]
    obtain ⟨rfl, rfl⟩ := h1 h0
    exact ⟨none, 0, rfl, .inl rfl, hb⟩
theorem teamErr_crew {c : CrewD} {j : JobD} {team : Int} (h : teamErr c j team = 0) : crewErr c j = 0 := by
  unfold teamErr at h
  by_cases h0 : crewErr c j = 0
  · exact h0
  · rw [if_pos h0] at h; exact absurd h h0
theorem crewErr_ok {c : CrewD} {j : JobD} (h : crewErr c j = 0) : okCrew c = true ∧ okJob c.languages j = true := by
  have h1 : okCrew c = true := by
    cases hk : okCrew c with
    | true => rfl
    | false => rw [crewErr, if_pos hk] at h; cases h
  refine ⟨h1, ?_⟩
  cases hk : okJob c.languages j with
  | true => rfl
  | false => rw [crewErr, if_neg (by rw [h1]; decide), if_pos hk] at h; cases h

set_option maxRecDepth 100000 in
set_option maxHeartbeats 16000000 in
theorem rChain_bad (c : CrewR) (j : JobD) (team : Int) (n : Nat) (w : World) (hA : CrewAt w n c) (hn : n ≤ w.heap.size) (hs : Short c) (h0 : teamErr c.d j team ≠ 0) :
    Calls Try.prog 20 #[crewV c, jobV j, .int .i64 team] w fun e w' => e = .returned (.tuple #[.slice none 0 0, .int .i64 (teamErr c.d j team)]) ∧ Below w.heap.size w w' := by
  have HC := Lib.hid (fun (w0 : World) (hw : Grow w w0) => rCheckTeam_any c j team w0.heap.size w0 (((hA.more hn).below hw).more hw.size) (Nat.le_refl _) hs)
  obtain ⟨te, hte⟩ : ∃ z, teamErr c.d j team = z := ⟨_, rfl⟩
  rw [hte] at HC h0 ⊢
  clear hA hn hte
  go_enter Try.func20, Try.ntmps20
  go_upto_region 1 with fail
  obtain ⟨W, hW, hg, hf, hs1, hsz⟩ := two_blocks w 25 27 (cellsC c) (cellsJ j)
  rw [hW]
  clear hW
  have hcc := hf.cell
  have hjc := hs1.cell
  have HG := Lib.hid hg
  clear hf hs1 hg
  go_wp2_with fail
  refine (HC.out W HG.out).mono ?_
  rintro e w1 ⟨rfl, hb1⟩
  have HG1 : Hid (Grow W w1) := hb1
  have hne : (te != 0) = true := by simpa using h0
  clear hb1 hcc hjc HC
  go_wp2
  all_goals (refine bodyPost_ret (results_pair67 Try.results20 _ _ _ _ rfl rfl) rfl ?_; exact ⟨rfl, HG.out.trans HG1.out⟩)

theorem rChain_flat (c : CrewR) (j : JobD) (team : Int) (n : Nat) (w : World) (hA : CrewAt w n c) (hn : n ≤ w.heap.size) (hs : Short c) :
    Calls Try.prog 20 #[crewV c, jobV j, .int .i64 team] w fun e w' => ∃ A cap, e = .returned (.tuple #[.slice A (chL c j team).length cap, .int .i64 (chE c j team)]) ∧ Ints w' w'.heap.size A (natsL (chL c j team)) ∧ Below w.heap.size w w' := by
  unfold chE chL
  by_cases h0 : teamErr c.d j team = 0
  · rw [if_neg (by simp [h0]), if_neg (by simp [h0])]
    obtain ⟨h1, h2⟩ := crewErr_ok (teamErr_crew h0)
    have g := good_ok h1 h2
    obtain ⟨t, rfl, ht1, ht2⟩ := team_nat h0 g.len
    have hc := g.crew
    have hj := g.job
    have hlw := lawOf_at hc hj
    unfold chainT
    obtain ⟨jf, hjf⟩ := Int.eq_ofNat_of_zero_le hj.field.1
    obtain ⟨jk, hjk⟩ := Int.eq_ofNat_of_zero_le hj.kind.1
    have e1 := g.frI
    have e2 := g.dstI
    have hk3 := hj.kind.2
    have hnq : j.fr.toNat ≠ j.dest.toNat := fun e => hj.ne (by rw [e1, e2, e])
    have hlw2 : c.laws[jk]? = some (lawOf c.d j) := by
      have h := hlw
      rw [hjk, Int.toNat_natCast] at h
      exact h
    have ej : (⟨((j.fr.toNat : Nat) : Int), ((j.dest.toNat : Nat) : Int), j.client, (jf : Nat), (jk : Nat), j.size⟩ : JobD) = j := by
      rw [← e1, ← e2, ← hjf, ← hjk]
    have q := rChain_good c j.fr.toNat j.dest.toNat jf jk t c.languages.toNat j.client j.size (lawOf c.d j).level (lawOf c.d j).size (lawOf c.d j).deaf w (hA.more hn) g.len ht2 g.lang g.n2 g.n5 g.frn g.dstn hnq g.levels (by omega) hlw2 (by
      rw [ej]
      intro w0 hw
      have h := rCheckTeam_any c j (t : Nat) w0.heap.size w0 (((hA.more hn).below hw).more hw.size) (Nat.le_refl _) hs
      rwa [h0] at h)
    rw [ej] at q
    rw [Int.toNat_natCast]
    exact q
  · rw [if_pos h0, if_pos h0]
    refine (rChain_bad c j team n w hA hn hs h0).mono ?_
    rintro e w' ⟨rfl, hb⟩
    exact ⟨none, 0, rfl, .inl rfl, hb⟩

end Go.Proofs.Yticeekkfdkfcgaa
