/- Ask: the program's. -/
import Derived.Test.YtjpnblflenlnaaaGreatGreatest
import Derived.Test.YtjpnblflenlnaaaGreatFind
namespace Go.Proofs.YtjpnblflenlnaaaGreat
open Go.RowKit

/-- the signs that agree, over the entries as they came -/
def foundL (v : SeenD) (l : List EntryD) : List Int := Lib.compact (sortedL ((l.filter fun y => agreesD v (canonE y)).map EntryD.sign))
theorem foundL_of (v : SeenD) (l : List EntryD) : FoundD v l (foundL v l) := by
  obtain ⟨h1, h2⟩ := sorted_compact ((l.filter fun y => agreesD v (canonE y)).map EntryD.sign)
  refine ⟨h1, fun x => (h2 x).trans ?_⟩
  simp only [List.mem_map, List.mem_filter]
  constructor
  · rintro ⟨y, ⟨h1, h2⟩, h3⟩; exact ⟨y, h1, h2, h3⟩
  · rintro ⟨y, h1, h2, h3⟩; exact ⟨y, ⟨h1, h2⟩, h3⟩
theorem signsL_found {l : List EntryD} {bk : List EntryR} (hb : IsBookOf l (bk.map (·.d))) (v : SeenD) : signsL v bk = foundL v l :=
  (FoundD.of_book (signsL_of v bk) hb).unique (foundL_of v l)
def maxD (l : List EntryD) (vs : List SeenD) : Nat := vs.foldl (fun m v => max m (foundL v l).length) 0
theorem maxOf_maxD {l : List EntryD} {bk : List EntryR} (hb : IsBookOf l (bk.map (·.d))) (vs : List SeenD) : maxOf bk vs = maxD l vs := by
  unfold maxOf maxD
  congr 1
  funext m v
  rw [signsL_found hb]
/-- the part whose number is the least, the first of several, and this number -/
def bestOf (g : Nat → Nat) : Nat → Nat × Nat
  | 0 => (0, 0)
  | k + 1 => if k = 0 ∨ g k < (bestOf g k).2 then (k, g k) else bestOf g k
theorem bestOf_succ (g : Nat → Nat) (k : Nat) : bestOf g (k + 1) = if k = 0 ∨ g k < (bestOf g k).2 then (k, g k) else bestOf g k := rfl
theorem bestOf_le (g : Nat → Nat) (c : Nat) (h : ∀ k, g k ≤ c) : ∀ k, (bestOf g k).2 ≤ c
  | 0 => Nat.zero_le _
  | k + 1 => by
    rw [bestOf_succ]
    split
    · exact h k
    · exact bestOf_le g c h k
def askG (l : List EntryD) (s : SeenD) (p : Nat) : Nat := maxD l (answersD s p)
/-- what Ask returns -/
def askR (l : List EntryD) (s : SeenD) : Int × Int × Int :=
  if findErr l s = 0 then (if foundL s l = [] then (0, 0, 3) else ((bestOf (askG l s) 5).1, (bestOf (askG l s) 5).2, 0)) else (0, 0, findErr l s)
def AskPost (l : List EntryD) (s : SeenD) (w : World) (e : Ending) (w' : World) : Prop :=
  Below w.heap.size w w' ∧ e = .returned (.tuple #[.int .i64 (askR l s).1, .int .i64 (askR l s).2.1, .int .i64 (askR l s).2.2])

set_option maxRecDepth 100000 in
set_option maxHeartbeats 8000000 in
theorem Ask_any (A A' : Option Addr) (cap cap' B : Nat) (l : List EntryR) (s : SeenD) (w : World) (hA : Ents w B A l) (hl : l.length ≤ 1000000) (hA' : Ints w B A' s.moves) (hl' : s.moves.length ≤ 1000000) (hB : B ≤ w.heap.size) :
    Calls Tryz.prog 38 #[.slice A l.length cap, seenV s A' cap'] w (AskPost (l.map (·.d)) s w) := by
  have HR := Lib.hid (fun w0 (h : Grow w w0) => readSeen_any A A' cap cap' w.heap.size l s w0 ((hA.more hB).below h) hl ((hA'.more hB).below h) hl' h.size)
  have HA' := Lib.hid (hA'.more hB)
  clear hA hA'
  go_enter Tryz.func38, Tryz.ntmps38
  go_upto_region 1 with fail
  obtain ⟨W, hW, hg, hf, hsz⟩ := one_block w 50 (cellsS s A' cap')
  rw [hW]
  clear hW
  have HG := Lib.hid hg
  have hfc := hf.cell
  clear hf hg
  go_wp2_with fail
  refine (HR.out _ HG.out).mono ?_
  rintro e w2 ⟨hb2, hcase⟩
  have HG2 : Hid (Grow W w2) := hb2
  clear hb2 hfc
  rcases hcase with ⟨hne, rfl⟩ | ⟨heq, hok, rfl⟩ | ⟨heq, hok, m, bk, rfl, hm, hbk, hmv, hfar, hrd⟩
  · have HNE : Hid (bookErr (l.map (·.d)) ≠ 0) := hne
    generalize hbe : bookErr (l.map (·.d)) = be at hne
    have hfe : findErr (l.map (·.d)) s = be := by unfold findErr; rw [hbe, if_neg hne]
    have har : askR (l.map (·.d)) s = (0, 0, be) := by unfold askR; rw [hfe, if_neg hne]
    have HAR := Lib.hid har
    clear hbe hfe har
    go_wp2
    go_ret3
    exact ⟨(HG.out.trans HG2.out).trans (Grow.alloc _ _), by rw [HAR.out]; rfl⟩
  · have hfe : findErr (l.map (·.d)) s = 13 := by unfold findErr; rw [if_pos heq, hok]; rfl
    have har : askR (l.map (·.d)) s = (0, 0, 13) := by unfold askR; rw [hfe, if_neg (by decide)]
    have HAR := Lib.hid har
    clear heq hok hfe har
    go_wp2
    go_ret3
    exact ⟨(HG.out.trans HG2.out).trans (Grow.alloc _ _), by rw [HAR.out]; rfl⟩
  · have hfe : findErr (l.map (·.d)) s = 0 := by unfold findErr; rw [if_pos heq, if_pos hok]
    have hbo := readD_book hrd
    have hlen : bk.length ≤ 1000000 := by have := hbo.length; simp at this; omega
    obtain ⟨W2, hW2, hg3, hf3, hsz3⟩ := one_block w2 100 (cellsS s A' cap')
    have hgw : Grow w W2 := (HG.out.trans HG2.out).trans hg3
    have hbkW := hbk.grow hg3
    have hmvW := hmv.grow hg3
    have hokf := book_forms heq hbo
    have HS := Lib.hid (signs_any s A' cap' w.heap.size m bk W2 (HA'.out.below hgw) hgw.size (SeenIn.of_ok hok) hbkW (fun y hy => (hmvW y hy).1.1) hokf hlen)
    have HGR := Lib.hid (fun (p : Int) (hp : 0 ≤ p ∧ p ≤ 4) (w0 : World) (h : Grow W2 w0) => greatest_any s A' cap' w.heap.size m p bk w0 (HA'.out.below (hgw.trans h)) (hgw.trans h).size (SeenIn.of_ok hok) hp (hbkW.grow h) (fun y hy => ((hmvW.grow h) y hy).1.1) hokf hlen)
    have HF3 := Lib.hid hf3
    have HFE := Lib.hid hfe
    have HBO := Lib.hid hbo
    have HGW := Lib.hid hgw
    have hgc : ∀ p, maxOf bk (answersD s p) ≤ 1000000 := fun p => Nat.le_trans (maxOf_le bk _) hlen
    have HGC := Lib.hid hgc
    have HW2 := Lib.hid hW2
    clear heq hok hm hbk hmv hfar hrd hfe hbo hg3 hf3 hgw hbkW hmvW hokf hgc hW2
    go_wp2_with fail
    rw [HW2.out]
    refine HS.out.mono ?_
    rintro e w3 ⟨A3, cap3, r, rfl, hsi, -, hb3⟩
    obtain rfl := hsi.unique (signsL_of _ _)
    have hr : signsL s bk = foundL s (l.map (·.d)) := signsL_found HBO.out s
    have hcv := (Grow.block hb3 HF3.out).cell
    have HG3 : Hid (Grow W2 w3) := hb3
    have HR3 := Lib.hid hr
    clear hsi hb3 hr
    by_cases hem : signsL s bk = []
    · have har : askR (l.map (·.d)) s = (0, 0, 3) := by unfold askR; rw [HFE.out, if_pos rfl, if_pos (by rw [← HR3.out]; exact hem)]
      have HAR := Lib.hid har
      have h0 : (signsL s bk).length = 0 := by rw [hem]; rfl
      generalize (signsL s bk).length = len at *
      subst h0
      clear har hem
      go_wp2
      go_ret3
      exact ⟨HGW.out.trans HG3.out, by rw [HAR.out]; rfl⟩
    · have har : askR (l.map (·.d)) s = (((bestOf (askG (l.map (·.d)) s) 5).1 : Int), ((bestOf (askG (l.map (·.d)) s) 5).2 : Int), (0 : Int)) := by unfold askR; rw [HFE.out, if_pos rfl, if_neg (by rw [← HR3.out]; exact hem)]
      have HAR := Lib.hid har
      have hag : askG (l.map (·.d)) s = fun p : Nat => maxOf bk (answersD s p) := by funext p; unfold askG; rw [maxOf_maxD HBO.out]
      have HAG := Lib.hid hag
      have hpos : 0 < (signsL s bk).length := List.length_pos_iff.2 hem
      have hneq : (((signsL s bk).length : Int) == 0) = false := by simp; exact hem
      clear har hem hag
      go_wp2
      go_loopw [4, 5, 26] (fun a b i wr => ∃ k : Nat, k ≤ 5 ∧ i = .int .i64 k ∧ a = .int .i64 (bestOf (fun p : Nat => maxOf bk (answersD s p)) k).1 ∧ b = .int .i64 (bestOf (fun p : Nat => maxOf bk (answersD s p)) k).2 ∧ Grow W2 wr) (fun _ _ i _ => 5 - (intOf i).toNat)
      case atStart => exact ⟨0, by omega, rfl, rfl, rfl, HG3.out⟩
      case round =>
        obtain ⟨k, hk, rfl, rfl, rfl, hgr⟩ := hrel
        by_cases hlt : k < 5
        · have hcvr := (hgr.block HF3.out).cell
          have HQ := Lib.hid (HGR.out (k : Int) ⟨by omega, by omega⟩ wr hgr)
          have hb1 := HGC.out (k : Int)
          have hb2 := bestOf_le (fun p : Nat => maxOf bk (answersD s p)) 1000000 (fun p => HGC.out (p : Int)) k
          have HSU := Lib.hid (bestOf_succ (fun p : Nat => maxOf bk (answersD s p)) k)
          have HGR' := Lib.hid hgr
          clear hgr hcv
          generalize bestOf (fun p : Nat => maxOf bk (answersD s p)) k = bo at *
          obtain ⟨bp, bl⟩ := bo
          dsimp only at *
          generalize hmx : maxOf bk (answersD s (k : Int)) = mx at *
          have HMX := Lib.hid hmx
          clear hmx
          go_wp2_with fail
          refine HQ.out.mono ?_
          rintro e w5 ⟨rfl, hb5⟩
          have HG5 : Hid (Grow W2 w5) := HGR'.out.trans hb5
          clear hb5 hcvr HQ
          by_cases hcond : k = 0 ∨ mx < bl
          · have hnew : bestOf (fun p : Nat => maxOf bk (answersD s p)) (k + 1) = (k, mx) := by rw [HSU.out, if_pos hcond]
            have HNEW := Lib.hid hnew
            clear hnew
            go_wp2
            all_goals first
              | (exfalso; simp at *; omega)
              | (go_roundw
                 case rel => exact ⟨k + 1, by omega, by go_num, by rw [HNEW.out]; try (first | rfl | (simp <;> omega)), by rw [HNEW.out]; try (first | rfl | (simp <;> omega)), HG5.out⟩
                 case measure => simp [intOf]; omega)
          · have hnew : bestOf (fun p : Nat => maxOf bk (answersD s p)) (k + 1) = (bp, bl) := by rw [HSU.out, if_neg hcond]
            have HNEW := Lib.hid hnew
            clear hnew
            go_wp2
            all_goals first
              | (exfalso; simp at *; omega)
              | (go_roundw
                 case rel => exact ⟨k + 1, by omega, by go_num, by rw [HNEW.out]; try (first | rfl | (simp <;> omega)), by rw [HNEW.out]; try (first | rfl | (simp <;> omega)), HG5.out⟩
                 case measure => simp [intOf]; omega)
        · obtain rfl : k = 5 := by omega
          have HGR' := Lib.hid hgr
          clear hgr hcv
          go_wp2
          go_ret3
          exact ⟨HGW.out.trans HGR'.out, by rw [HAR.out, HAG.out]; rfl⟩

end Go.Proofs.YtjpnblflenlnaaaGreat
