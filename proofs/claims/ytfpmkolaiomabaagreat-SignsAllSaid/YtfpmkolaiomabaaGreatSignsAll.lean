/- SignsAll: the law's walk. -/
import Derived.Test.YtfpmkolaiomabaaGreatClash
import Derived.Test.YtfpmkolaiomabaaGreatRAgree
import Derived.Test.YtfpmkolaiomabaaGreatWorks
namespace Go.Proofs.YtfpmkolaiomabaaGreat
open Go.RowKit

theorem FoundD.le {s : SeenD} {l : List EntryD} {r : List Int} (h : FoundD s l r) : r.length ≤ l.length := by
  have := nodup_length (a := r) (b := l.map fun y : EntryD => y.sign) (h.1.imp fun h => by omega) fun x hx => by
    obtain ⟨y, hy, _, e⟩ := (h.2 x).1 hx
    exact List.mem_map.2 ⟨y, hy, e⟩
  simpa using this
/-- what an entry shows, as the specification says it, decides whether its sign is found -/
theorem FoundD.iff {s : SeenD} {l : List EntryD} {r : List Int} (h : FoundD s l r) (hs : okSeen s = true) (hl : ∀ x ∈ l, okEntry x = true) (n : Int) : n ∈ r ↔ ∃ x ∈ l, x.sign = n ∧ rAgreesD s x = true := by
  rw [h.2]
  constructor
  · rintro ⟨y, hy, ha, e⟩
    refine ⟨y, hy, e, ?_⟩
    rw [rAgrees_eq hs (hl y hy), ← agrees_canon s (hl y hy)]
    exact ha
  · rintro ⟨y, hy, e, ha⟩
    refine ⟨y, hy, ?_, e⟩
    rw [agrees_canon s (hl y hy), ← rAgrees_eq hs (hl y hy)]
    exact ha
/-- has one of the first m entries the sign n, and does it agree? -/
def someTo (s : SeenD) (l : List EntryR) (n : Int) (m : Nat) : Bool := (l.take m).any fun x => x.d.sign == n && rAgreesD s x.d
theorem someTo_succ {s : SeenD} {l : List EntryR} {n : Int} {m : Nat} {x : EntryR} (h : l[m]? = some x) : someTo s l n (m + 1) = (someTo s l n m || (x.d.sign == n && rAgreesD s x.d)) := by
  unfold someTo
  rw [take_snoc h, List.any_append]
  simp
theorem someTo_all {s : SeenD} {l : List EntryR} {r : List Int} {n : Int} (h : FoundD s (l.map (·.d)) r) (hs : okSeen s = true) (hl : ∀ x ∈ l, okEntry x.d = true) (hn : n ∈ r) : someTo s l n l.length = true := by
  obtain ⟨x, hx, e, ha⟩ := (h.iff hs (fun x hx => by obtain ⟨y, hy, rfl⟩ := List.mem_map.1 hx; exact hl y hy) n).1 hn
  obtain ⟨y, hy, rfl⟩ := List.mem_map.1 hx
  unfold someTo
  rw [List.take_length, List.any_eq_true]
  exact ⟨y, hy, by simp [e, ha]⟩

set_option maxRecDepth 100000 in
set_option maxHeartbeats 16000000 in
theorem signsAll_ready (A A' : Option Addr) (cap cap' : Nat) (l : List EntryR) (s : SeenD) (w : World) (hA : EntsO w w.heap.size A l) (hl : l.length ≤ 9223372036854775807) (hA' : Ints w w.heap.size A' s.moves) (hc' : s.moves.length ≤ cap')
    (hr : readyD (l.map (·.d)) = true) (hs : okSeen s = true) :
    Calls Tryz.prog 9 #[.slice A l.length cap, seenV s A' cap'] w fun e w' => e = .returned (.bool true) ∧ Below w.heap.size w w' := by
  have HWK := Lib.hid works_any
  obtain ⟨hl12, hent, hag, hbe, hlong⟩ := ready_ok hr
  have hE : Ents w w.heap.size A l := (hA.short hlong).1
  have hcaps : ∀ x ∈ l, x.d.form.moves.length ≤ x.cap := fun x hx => (hA.2 x hx).2
  have hok : ∀ x ∈ l, okEntry x.d = true := fun x hx => hent x.d (List.mem_map.2 ⟨x, hx, rfl⟩)
  have hml : s.moves.length ≤ 6 := (SeenIn.of_ok hs).len
  rw [List.length_map] at hl12
  have hrdy := fun (w0 : World) (h : Grow w w0) => by have k := ready_any A cap w.heap.size l w0 (hA.below h) hl h.size; rw [hr] at k; exact k
  have HRD := Lib.hid hrdy
  have hsn := fun (w0 : World) (h : Grow w w0) => by have k := rIsSeen_any s A' cap' w.heap.size w0 (hA'.below h) (by omega) h.size; rw [hs] at k; exact k
  have HSN := Lib.hid hsn
  have hfi := fun (w0 : World) (h : Grow w w0) => Find_any A A' cap cap' w.heap.size l s w0 (hE.below h) (by omega) (hA'.below h) (by omega) h.size
  have HFI := Lib.hid hfi
  have hfe : findErr (l.map (·.d)) s = 0 := by unfold findErr; rw [if_pos hbe, if_pos hs]
  have HFE := Lib.hid hfe
  have HAG := Lib.hid (fun (w0 : World) (h : Grow w w0) (x : EntryR) (hx : x ∈ l) => rAgrees_any s x A' cap' w.heap.size w.heap.size w0 (hA'.below h) ((hE.below h).2 x hx).1 h.size h.size (SeenIn.of_ok hs) (okSeen_lost hs) (okEntry_okForm (hok x hx)) hc' (hcaps x hx))
  have HFD := Lib.hid (fun (r : List Int) (h : FoundD s (l.map (·.d)) r) => h.iff hs hent)
  have HST := Lib.hid (fun (r : List Int) (h : FoundD s (l.map (·.d)) r) (n : Int) (hn : n ∈ r) => someTo_all h hs hok hn)
  have HE := Lib.hid hE
  have d1 : decide (20 < (s.moves.length : Int)) = false := by simp; omega
  clear hA hA' hE hcaps hok hent hag hbe hlong hr hs hrdy hsn hfi hfe hc'
  go_enter Tryz.func9, Tryz.ntmps9
  go_upto_region 1 with fail
  obtain ⟨W, hW, hg, hf, hsz⟩ := one_block w 50 (cellsS s A' cap')
  rw [hW]
  clear hW
  have HG := Lib.hid hg
  have HF := Lib.hid hf
  clear hf hg
  go_wp2_with fail
  refine (HRD.out _ HG.out).mono ?_
  rintro e w2 ⟨rfl, hb2⟩
  have HG2 : Hid (Grow w w2) := HG.out.trans hb2
  have HF2 := Lib.hid (Grow.block hb2 HF.out)
  have hfc := HF2.out.cell
  clear hb2
  go_wp2_with fail
  refine (HSN.out _ HG2.out).mono ?_
  rintro e w3 ⟨rfl, hb3⟩
  have HG3 : Hid (Grow w w3) := HG2.out.trans hb3
  have HF3 := Lib.hid (Grow.block hb3 HF2.out)
  clear hfc
  have hfc := HF3.out.cell
  clear hb3
  go_wp2_with fail
  refine (HFI.out _ HG3.out).mono ?_
  rintro e w4 ⟨hb4, A2, cap2, r, rfl, hi4, -, ho4⟩
  rw [HFE.out]
  have hfound := ho4 HFE.out
  have hrl : r.length ≤ l.length := by have := hfound.le; rwa [List.length_map] at this
  have HFN := Lib.hid hfound
  have HG4 : Hid (Grow w w4) := HG3.out.trans hb4
  have HF4 := Lib.hid (Grow.block hb4 HF3.out)
  have HI4 := Lib.hid hi4.ints
  have hd2 : decide ((l.length : Int) < r.length) = false := by simp; omega
  have hd3 : decide (l.length < r.length) = false := by simp; omega
  clear hfc hb4 hi4 ho4 hfound
  go_wp2_with fail
  go_loopw [7] (fun i wr => ∃ k : Nat, k ≤ l.length ∧ i = .int .i64 k ∧ Grow w4 wr) (fun i _ => l.length - (intOf i).toNat)
  case atStart => exact ⟨0, Nat.zero_le _, rfl, Grow.refl _⟩
  case round =>
    obtain ⟨k, hk, rfl, hgr⟩ := hrel
    rename World => wr
    have HGR := Lib.hid hgr
    clear hgr
    by_cases hlt : k < l.length
    · obtain ⟨b, off, x, rfl, hb, hcx, hmx, HX⟩ := (HE.out.below (HG4.out.trans HGR.out)).at_ hlt
      have HCX := Lib.hid hcx
      have hbw : b < wr.heap.size := by have := (HG4.out.trans HGR.out).size; omega
      have HAX := Lib.hid (fun (w0 : World) (h : Grow wr w0) => HAG.out w0 ((HG4.out.trans HGR.out).trans h) x (List.mem_of_getElem? HX.out))
      have HIN := Lib.hid (fun (w0 : World) (h : Grow wr w0) => in_any A2 cap2 w4.heap.size r x.d.sign w0 (HI4.out.below (HGR.out.trans h)) (by omega))
      have HQ : Hid ((rAgreesD s x.d && !decide (x.d.sign ∈ r)) = false) := by
        rw [Hid]
        cases h : rAgreesD s x.d with
        | false => rfl
        | true =>
          have := (HFD.out r HFN.out x.d.sign).2 ⟨x.d, List.mem_map.2 ⟨x, List.mem_of_getElem? HX.out, rfl⟩, rfl, h⟩
          simp [this]
      have hl1 : (k : Int) < l.length := by omega
      have HFR := Lib.hid (HGR.out.block HF4.out)
      clear hcx hmx
      generalize rAgreesD s x.d = ag at HAX HQ
      generalize decide (x.d.sign ∈ r) = inn at HIN HQ
      go_upto_region 9 with fail
      refine wp_region_lit 16 [[], [], [(0, 47), (1, 48)], [(2, 49)], [], [(3, 50), (4, 51)], [(5, 52)], [(6, 53)], [(6, 53)], [(6, 53)], [(6, 53), (8, 55), (9, 56)], [(6, 53), (10, 57)], [(6, 53), (11, 58)], [(6, 53), (7, 54), (12, 59)], [(6, 53), (13, 60)], [(6, 53), (14, 61)]] Grow (fun i v w' => match i with
            | 0 => v = .slice (some ⟨b, off, none⟩) l.length cap
            | 1 => v = .int .i64 k
            | 2 => v = .pointer (some ⟨b, off + k * 11, none⟩)
            | 3 => v = entryV x
            | 4 => v = seenV s A' cap'
            | 5 => v = .bool ag
            | 6 => v = .bool ag
            | 7 => v = bif ag then .slice A2 r.length cap2 else undef
            | 8 => v = bif ag then .slice (some ⟨b, off, none⟩) l.length cap else undef
            | 9 => v = bif ag then .int .i64 k else undef
            | 10 => v = bif ag then .pointer (some ⟨b, off + k * 11, none⟩) else undef
            | 11 => v = bif ag then .pointer (some ⟨b, off + k * 11 + 1, none⟩) else undef
            | 12 => v = bif ag then .int .i64 x.d.sign else undef
            | 13 => v = bif ag then .bool inn else undef
            | 14 => v = bif ag then .bool (!inn) else undef
            | 15 => v = .bool (ag && !inn)
            | _ => False) (by kernel_rfl) (by kernel_rfl) (fun _ _ _ => Grow.trans) Grow.refl ?_ ?_ ?_
      · intro i v y y' h k
        match i, h with
        | 0, h | 1, h | 2, h | 3, h | 4, h | 5, h | 6, h | 7, h | 8, h | 9, h | 10, h | 11, h | 12, h | 13, h | 14, h | 15, h => exact h
      · cases ag
        all_goals simp only [Bool.true_and, Bool.false_and, cond_true, cond_false]
        all_goals
          simp only [StepsLit, List.take_succ_cons, List.take_zero]
          refine ⟨?_, ?_, ?_, ?_, ?_, ?_, ?_, ?_, ?_, ?_, ?_, ?_, ?_, ?_, ?_, ?_, trivial⟩
        all_goals
          intro w5 hR
          have HG5 := Lib.hid hR.of_drew
          have hcx : ∀ j, j < 11 → w5.cell? ⟨b, off + k * 11 + j, none⟩ = (cellsE x)[j]? := fun j hj => (Below.cell (p := ⟨b, off + k * 11 + j, none⟩) HG5.out hbw).trans (HCX.out j hj)
          have hfc := (HG5.out.block HFR.out).cell
          clear hR
          have hx0 : w5.cell? ⟨b, off + k * 11, none⟩ = some (.int .i64 x.d.id) := hcx 0 (by omega)
          have hx1 : w5.cell? ⟨b, off + k * 11 + 1, none⟩ = some (.int .i64 x.d.sign) := hcx 1 (by omega)
          have hx2 : w5.cell? ⟨b, off + k * 11 + 2, none⟩ = some (.int .i64 x.d.regions) := hcx 2 (by omega)
          have hx3 : w5.cell? ⟨b, off + k * 11 + 3, none⟩ = some (.int .i64 x.d.form.right) := hcx 3 (by omega)
          have hx4 : w5.cell? ⟨b, off + k * 11 + 4, none⟩ = some (.int .i64 x.d.form.left) := hcx 4 (by omega)
          have hx5 : w5.cell? ⟨b, off + k * 11 + 5, none⟩ = some (.int .i64 x.d.form.column) := hcx 5 (by omega)
          have hx6 : w5.cell? ⟨b, off + k * 11 + 6, none⟩ = some (.int .i64 x.d.form.row) := hcx 6 (by omega)
          have hx7 : w5.cell? ⟨b, off + k * 11 + 7, none⟩ = some (.int .i64 x.d.form.face) := hcx 7 (by omega)
          have hx8 : w5.cell? ⟨b, off + k * 11 + 8, none⟩ = some (.slice x.A x.d.form.moves.length x.cap) := hcx 8 (by omega)
          have hx9 : w5.cell? ⟨b, off + k * 11 + 9, none⟩ = some (.int .i64 x.d.low) := hcx 9 (by omega)
          have hx10 : w5.cell? ⟨b, off + k * 11 + 10, none⟩ = some (.int .i64 x.d.high) := hcx 10 (by omega)
          clear hcx
          simp only [depV, Region.wanted, yielded, cond_true]
          repeat (rintro _ rfl)
          try go_simp
        all_goals first
          | (with_reducible exact Grow.refl _)
          | (intro h; exact absurd h (by simp [undef]))
          | skip
        · refine (HAX.out _ HG5.out).mono ?_
          rintro e w6 ⟨rfl, hb6⟩
          exact ⟨hb6, rfl⟩
        · refine (HAX.out _ HG5.out).mono ?_
          rintro e w6 ⟨rfl, hb6⟩
          exact ⟨hb6, rfl⟩
        · refine (HIN.out _ HG5.out).mono ?_
          rintro e w6 ⟨rfl, rfl⟩
          exact ⟨Grow.refl _, rfl⟩
      · intro w5 hR
        have HG5 := Lib.hid (HGR.out.trans hR.of_drew)
        clear hR HAX HIN
        simp only [finVC, List.take_succ_cons, List.take_zero, List.drop_succ_cons, List.drop_zero]
        repeat (rintro _ rfl)
        simp only [Act.put, List.setIfInBounds_toArray, List.set_cons_succ, List.set_cons_zero]
        rw [HQ.out]
        go_wp2
        go_roundw
        case rel => exact ⟨k + 1, by omega, by go_num, HG5.out⟩
        case measure => simp [intOf]; omega
    · obtain rfl : k = l.length := by omega
      have HG5 : Hid (Grow w4 wr) := HGR.out
      clear HGR
      go_wp2_with fail
      go_loopw [8] (fun i wr2 => ∃ k : Nat, k ≤ r.length ∧ i = .int .i64 k ∧ Grow w4 wr2) (fun i _ => r.length - (intOf i).toNat)
      case atStart => exact ⟨0, Nat.zero_le _, rfl, HG5.out⟩
      case round =>
        obtain ⟨k, hk, rfl, hgr⟩ := hrel
        rename World => wr2
        have HGR := Lib.hid hgr
        clear hgr HG5
        by_cases hlt : k < r.length
        · obtain ⟨b2, off2, fk, rfl, hb2, hc2, HK⟩ := (HI4.out.below HGR.out).at_ hlt
          have hb2w : b2 < w4.heap.size := hb2
          have HC2 := Lib.hid (fun (w0 : World) (h : Grow wr2 w0) => (Below.cell (p := ⟨b2, off2 + k, none⟩) h (show b2 < wr2.heap.size by have := HGR.out.size; omega)).trans hc2)
          have HFK : Hid (someTo s l fk l.length = true) := HST.out r HFN.out fk (List.mem_of_getElem? HK.out)
          clear hc2
          go_wp2_with fail
          go_loopw [9, 10] (fun v i wr3 => ∃ m : Nat, m ≤ l.length ∧ v = .bool (someTo s l fk m) ∧ i = .int .i64 m ∧ Grow wr2 wr3) (fun _ i _ => l.length - (intOf i).toNat)
          case atStart => exact ⟨0, Nat.zero_le _, rfl, rfl, Grow.refl _⟩
          case round =>
            obtain ⟨m, hm, rfl, rfl, hgr⟩ := hrel
            rename World => wr3
            have HG3' := Lib.hid hgr
            have hc2 := HC2.out _ hgr
            clear hgr
            by_cases hlt3 : m < l.length
            · obtain ⟨b, off, x, rfl, hb, hcx, hmx, HX⟩ := (HE.out.below ((HG4.out.trans HGR.out).trans HG3'.out)).at_ hlt3
              have HCX := Lib.hid hcx
              have hbw : b < wr3.heap.size := by have := ((HG4.out.trans HGR.out).trans HG3'.out).size; omega
              have hb2x : b2 < wr3.heap.size := by have := (HGR.out.trans HG3'.out).size; omega
              have HAX := Lib.hid (fun (w0 : World) (h : Grow wr3 w0) => HAG.out w0 (((HG4.out.trans HGR.out).trans HG3'.out).trans h) x (List.mem_of_getElem? HX.out))
              have HS : Hid (someTo s l fk (m + 1) = (someTo s l fk m || (x.d.sign == fk && rAgreesD s x.d))) := someTo_succ HX.out
              have hl1 : (m : Int) < l.length := by omega
              have hl2 : (k : Int) < r.length := by omega
              have HFR := Lib.hid ((HGR.out.trans HG3'.out).block HF4.out)
              have HC2' := Lib.hid hc2
              clear hcx hmx hc2
              generalize rAgreesD s x.d = ag at HAX HS
              generalize hq : (x.d.sign == fk) = q at HS
              have HQ := Lib.hid hq
              clear hq
              generalize someTo s l fk m = is at HS
              go_upto_region 18 with fail
              refine wp_region_lit 21 [[], [(0, 75)], [(1, 76)], [(1, 76)], [(1, 76), (2, 77), (3, 78)], [(1, 76), (4, 79)], [(1, 76), (5, 80)], [(1, 76)], [(1, 76)], [(1, 76), (7, 82), (8, 83)], [(1, 76), (9, 84)], [(1, 76), (6, 81), (10, 85)], [(1, 76), (11, 86)], [(12, 87)], [(12, 87)], [(12, 87), (13, 88), (14, 89)], [(12, 87), (15, 90)], [(12, 87)], [(12, 87), (16, 91), (17, 92)], [(1, 76), (12, 87), (18, 93)], [(1, 76), (19, 94)]] Grow (fun i v w' => match i with
                | 0 => v = .bool is
                | 1 => v = .bool is
                | 2 => v = bif !is then .slice (some ⟨b, off, none⟩) l.length cap else undef
                | 3 => v = bif !is then .int .i64 m else undef
                | 4 => v = bif !is then .pointer (some ⟨b, off + m * 11, none⟩) else undef
                | 5 => v = bif !is then .pointer (some ⟨b, off + m * 11 + 1, none⟩) else undef
                | 6 => v = bif !is then .int .i64 x.d.sign else undef
                | 7 => v = bif !is then .slice (some ⟨b2, off2, none⟩) r.length cap2 else undef
                | 8 => v = bif !is then .int .i64 k else undef
                | 9 => v = bif !is then .pointer (some ⟨b2, off2 + k, none⟩) else undef
                | 10 => v = bif !is then .int .i64 fk else undef
                | 11 => v = bif !is then .bool q else undef
                | 12 => v = bif !is then .bool q else undef
                | 13 => v = bif !is && q then .slice (some ⟨b, off, none⟩) l.length cap else undef
                | 14 => v = bif !is && q then .int .i64 m else undef
                | 15 => v = bif !is && q then .pointer (some ⟨b, off + m * 11, none⟩) else undef
                | 16 => v = bif !is && q then entryV x else undef
                | 17 => v = bif !is && q then seenV s A' cap' else undef
                | 18 => v = bif !is && q then .bool ag else undef
                | 19 => v = bif !is then .bool (q && ag) else undef
                | 20 => v = .bool (is || (q && ag))
                | _ => False) (by kernel_rfl) (by kernel_rfl) (fun _ _ _ => Grow.trans) Grow.refl ?_ ?_ ?_
              · intro i v y y' h k
                match i, h with
                | 0, h | 1, h | 2, h | 3, h | 4, h | 5, h | 6, h | 7, h | 8, h | 9, h | 10, h | 11, h | 12, h | 13, h | 14, h | 15, h | 16, h | 17, h | 18, h | 19, h | 20, h => exact h
              · rcases (show is = true ∨ (is = false ∧ q = false) ∨ (is = false ∧ q = true) by cases is <;> cases q <;> simp) with rfl | ⟨rfl, rfl⟩ | ⟨rfl, rfl⟩
                all_goals simp only [Bool.true_and, Bool.false_and, Bool.not_true, Bool.not_false, Bool.true_or, Bool.false_or, cond_true, cond_false]
                all_goals
                  simp only [StepsLit, List.take_succ_cons, List.take_zero]
                  refine ⟨?_, ?_, ?_, ?_, ?_, ?_, ?_, ?_, ?_, ?_, ?_, ?_, ?_, ?_, ?_, ?_, ?_, ?_, ?_, ?_, ?_, trivial⟩
                all_goals
                  intro w5 hR
                  have HG5 := Lib.hid hR.of_drew
                  have hcx : ∀ j, j < 11 → w5.cell? ⟨b, off + m * 11 + j, none⟩ = (cellsE x)[j]? := fun j hj => (Below.cell (p := ⟨b, off + m * 11 + j, none⟩) HG5.out hbw).trans (HCX.out j hj)
                  have hc2 : w5.cell? ⟨b2, off2 + k, none⟩ = some (.int .i64 fk) := (Below.cell (p := ⟨b2, off2 + k, none⟩) HG5.out hb2x).trans HC2'.out
                  have hfc := (HG5.out.block HFR.out).cell
                  clear hR
                  have hx0 : w5.cell? ⟨b, off + m * 11, none⟩ = some (.int .i64 x.d.id) := hcx 0 (by omega)
                  have hx1 : w5.cell? ⟨b, off + m * 11 + 1, none⟩ = some (.int .i64 x.d.sign) := hcx 1 (by omega)
                  have hx2 : w5.cell? ⟨b, off + m * 11 + 2, none⟩ = some (.int .i64 x.d.regions) := hcx 2 (by omega)
                  have hx3 : w5.cell? ⟨b, off + m * 11 + 3, none⟩ = some (.int .i64 x.d.form.right) := hcx 3 (by omega)
                  have hx4 : w5.cell? ⟨b, off + m * 11 + 4, none⟩ = some (.int .i64 x.d.form.left) := hcx 4 (by omega)
                  have hx5 : w5.cell? ⟨b, off + m * 11 + 5, none⟩ = some (.int .i64 x.d.form.column) := hcx 5 (by omega)
                  have hx6 : w5.cell? ⟨b, off + m * 11 + 6, none⟩ = some (.int .i64 x.d.form.row) := hcx 6 (by omega)
                  have hx7 : w5.cell? ⟨b, off + m * 11 + 7, none⟩ = some (.int .i64 x.d.form.face) := hcx 7 (by omega)
                  have hx8 : w5.cell? ⟨b, off + m * 11 + 8, none⟩ = some (.slice x.A x.d.form.moves.length x.cap) := hcx 8 (by omega)
                  have hx9 : w5.cell? ⟨b, off + m * 11 + 9, none⟩ = some (.int .i64 x.d.low) := hcx 9 (by omega)
                  have hx10 : w5.cell? ⟨b, off + m * 11 + 10, none⟩ = some (.int .i64 x.d.high) := hcx 10 (by omega)
                  clear hcx
                  simp only [depV, Region.wanted, yielded, cond_true]
                  repeat (rintro _ rfl)
                  try go_simp
                all_goals first
                  | (with_reducible exact Grow.refl _)
                  | (with_reducible refine ⟨Grow.refl _, ?_⟩; have h := HQ.out; simpa using h)
                  | (intro h; exact absurd h (by simp [undef]))
                  | skip
                · refine (HAX.out _ HG5.out).mono ?_
                  rintro e w6 ⟨rfl, hb6⟩
                  exact ⟨hb6, rfl⟩
              · intro w5 hR
                have HG5 := Lib.hid (HG3'.out.trans hR.of_drew)
                clear hR HAX
                simp only [finVC, List.take_succ_cons, List.take_zero, List.drop_succ_cons, List.drop_zero]
                repeat (rintro _ rfl)
                simp only [Act.put, List.setIfInBounds_toArray, List.set_cons_succ, List.set_cons_zero]
                rw [← HS.out]
                generalize hst : someTo s l fk (m + 1) = st
                have HST2 := Lib.hid hst
                clear hst HS
                go_wp2
                go_roundw
                case rel => exact ⟨m + 1, by omega, by rw [HST2.out], by go_num, HG5.out⟩
                case measure => simp [intOf]; omega
            · obtain rfl : m = l.length := by omega
              rw [HFK.out]
              have HG5 := Lib.hid (HGR.out.trans HG3'.out)
              clear hc2
              rcases k with _ | k
              · go_wp2_with fail
                go_quiet (fail)
                go_wp2
                go_roundw
                case rel => exact ⟨1, by omega, by go_num, Below.drewN_ HG5.out _⟩
                case measure => simp [intOf]; omega
              · have hc2 := HC2.out _ HG3'.out
                obtain ⟨b3, off3, f0, hA3, hb3, hc3, HK0⟩ := (HI4.out.below HG5.out).at_ (k := k) (by omega)
                injection hA3 with hA3
                injection hA3 with e1 e2
                subst e1; subst e2
                have hcmp : decide (fk ≤ f0) = false := by
                  have h1 := HFN.out.1
                  rw [List.pairwise_iff_getElem] at h1
                  obtain ⟨hk0, e0⟩ := List.getElem?_eq_some_iff.1 HK0.out
                  obtain ⟨hk1, e1⟩ := List.getElem?_eq_some_iff.1 HK.out
                  have := h1 k (k + 1) hk0 hk1 (by omega)
                  rw [e0, e1] at this
                  simp; omega
                have hl2 : (k : Int) + 1 < r.length := by omega
                have hl3 : (k : Int) < r.length := by omega
                have hl4 : decide (0 < (k : Int) + 1) = true := decide_eq_true (by omega)
                go_wp2_with fail
                go_quiet (fail)
                go_wp2
                go_roundw
                case rel => exact ⟨k + 2, by omega, by go_num, Below.drewN_ HG5.out _⟩
                case measure => simp [intOf]; omega
        · obtain rfl : k = r.length := by omega
          go_wp2_with fail
          refine (HWK.out _).mono ?_
          rintro e w13 ⟨rfl, hb13⟩
          have HG13 : Hid (Grow w w13) := (HG4.out.trans HGR.out).trans hb13
          clear hb13
          go_wp2
          go_ret
          exact ⟨rfl, HG13.out⟩

set_option maxRecDepth 100000 in
set_option maxHeartbeats 8000000 in
theorem signsAll_any (A A' : Option Addr) (cap cap' : Nat) (l : List EntryR) (s : SeenD) (w : World) (hA : EntsO w w.heap.size A l) (hl : l.length ≤ 9223372036854775807) (hA' : Ints w w.heap.size A' s.moves) (hc' : s.moves.length ≤ cap') :
    Calls Tryz.prog 9 #[.slice A l.length cap, seenV s A' cap'] w fun e w' => e = .returned (.bool true) ∧ Below w.heap.size w w' := by
  by_cases hr : readyD (l.map (·.d)) = true ∧ s.moves.length ≤ 20 ∧ okSeen s = true
  · exact signsAll_ready A A' cap cap' l s w hA hl hA' hc' hr.1 hr.2.2
  · have HWK := Lib.hid works_any
    have HRD := Lib.hid (fun (w0 : World) (h : Grow w w0) => ready_any A cap w.heap.size l w0 (hA.below h) hl h.size)
    have HSN := Lib.hid (fun (w0 : World) (h : Grow w w0) (hm : s.moves.length ≤ 20) => rIsSeen_any s A' cap' w.heap.size w0 (hA'.below h) (by omega) h.size)
    have HR := Lib.hid hr
    clear hA hA' hr hc'
    go_enter Tryz.func9, Tryz.ntmps9
    go_upto_region 1 with fail
    obtain ⟨W, hW, hg, hf, hsz⟩ := one_block w 50 (cellsS s A' cap')
    rw [hW]
    clear hW
    have HG := Lib.hid hg
    have HF := Lib.hid hf
    clear hf hg
    go_wp2_with fail
    refine (HRD.out _ HG.out).mono ?_
    rintro e w2 ⟨rfl, hb2⟩
    have HG2 : Hid (Grow w w2) := HG.out.trans hb2
    have HF2 := Lib.hid (Grow.block hb2 HF.out)
    have hfc := HF2.out.cell
    clear hb2
    generalize readyD (l.map (·.d)) = rd at HR ⊢
    cases rd with
    | false =>
      go_wp2_with fail
      refine (HWK.out _).mono ?_
      rintro e w13 ⟨rfl, hb13⟩
      have HG13 : Hid (Grow w w13) := HG2.out.trans hb13
      clear hb13
      go_wp2
      go_ret
      exact ⟨rfl, HG13.out⟩
    | true =>
      by_cases hm : s.moves.length ≤ 20
      · have d1 : decide (20 < (s.moves.length : Int)) = false := by simp; omega
        have hos : okSeen s = false := by
          cases h : okSeen s with
          | false => rfl
          | true => exact absurd ⟨rfl, hm, h⟩ HR.out
        have HSN2 := Lib.hid (fun (w0 : World) (h : Grow w w0) => HSN.out w0 h hm)
        rw [hos] at HSN2
        clear hos HSN HR
        go_wp2_with fail
        refine (HSN2.out _ HG2.out).mono ?_
        rintro e w3 ⟨rfl, hb3⟩
        have HG3 : Hid (Grow w w3) := HG2.out.trans hb3
        clear hb3
        go_wp2_with fail
        refine (HWK.out _).mono ?_
        rintro e w13 ⟨rfl, hb13⟩
        have HG13 : Hid (Grow w w13) := HG3.out.trans hb13
        clear hb13
        go_wp2
        go_ret
        exact ⟨rfl, HG13.out⟩
      · have d1 : decide (20 < (s.moves.length : Int)) = true := by simp; omega
        clear HR
        go_wp2_with fail
        refine (HWK.out _).mono ?_
        rintro e w13 ⟨rfl, hb13⟩
        have HG13 : Hid (Grow w w13) := HG2.out.trans hb13
        clear hb13
        go_wp2
        go_ret
        exact ⟨rfl, HG13.out⟩

end Go.Proofs.YtfpmkolaiomabaaGreat
