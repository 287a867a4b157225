/- RFind: the specification's find, checkSeen, Find and Ask. -/
import Derived.Test.YtfpmkolaiomabaaGreatClash
import Derived.Test.YtfpmkolaiomabaaGreatRAgree
import Derived.Test.YtfpmkolaiomabaaGreatRSeen
import Derived.Test.YtfpmkolaiomabaaGreatAnswers
namespace Go.Proofs.YtfpmkolaiomabaaGreat
open Go.RowKit

/-- has one of the first m entries the sign n, and does it agree? -/
def anyTo (s : SeenD) (l : List EntryR) (n : Int) (m : Nat) : Bool := (l.take m).any fun x => x.d.sign == n && rAgreesD s x.d
theorem anyTo_succ {s : SeenD} {l : List EntryR} {n : Int} {m : Nat} {x : EntryR} (h : l[m]? = some x) : anyTo s l n (m + 1) = (anyTo s l n m || (x.d.sign == n && rAgreesD s x.d)) := by
  unfold anyTo
  rw [take_snoc h, List.any_append]
  simp
/-- the signs below k that are found -/
def findTo (s : SeenD) (l : List EntryR) (k : Nat) : List Int := (List.range k).filterMap fun (i : Nat) => if anyTo s l i l.length = true then some (i : Int) else none
theorem findTo_succ (s : SeenD) (l : List EntryR) (k : Nat) : findTo s l (k + 1) = findTo s l k ++ (if anyTo s l k l.length = true then [(k : Int)] else []) := by
  unfold findTo
  rw [List.range_succ, List.filterMap_append]
  congr 1
  by_cases h : anyTo s l k l.length = true <;> simp [h]
theorem findTo_length (s : SeenD) (l : List EntryR) (k : Nat) : (findTo s l k).length ≤ k := by
  have := List.length_filterMap_le (fun (i : Nat) => if anyTo s l i l.length = true then some (i : Int) else none) (List.range k)
  simpa [findTo] using this
theorem findTo_mem {s : SeenD} {l : List EntryR} {k : Nat} {n : Int} : n ∈ findTo s l k ↔ 0 ≤ n ∧ n < k ∧ anyTo s l n l.length = true := by
  unfold findTo
  rw [List.mem_filterMap]
  constructor
  · rintro ⟨i, hi, h⟩
    rw [List.mem_range] at hi
    split at h
    · rename_i hc
      obtain rfl := Option.some.inj h
      exact ⟨by omega, by omega, hc⟩
    · cases h
  · rintro ⟨h0, h1, h2⟩
    have e : ((n.toNat : Nat) : Int) = n := by omega
    exact ⟨n.toNat, List.mem_range.2 (by omega), by rw [e, if_pos h2]⟩
theorem findTo_sorted (s : SeenD) (l : List EntryR) : ∀ k, (findTo s l k).Pairwise (· < ·)
  | 0 => by simp [findTo]
  | k + 1 => by
    rw [findTo_succ, List.pairwise_append]
    refine ⟨findTo_sorted s l k, ?_, fun a ha b hb => ?_⟩
    · split <;> simp
    · have := (findTo_mem.1 ha).2.1
      split at hb
      · rw [List.mem_singleton] at hb; omega
      · cases hb
theorem okEntry_sign {x : EntryD} (h : okEntry x = true) : 0 ≤ x.sign ∧ x.sign ≤ 999 := by
  simp only [okEntry, Bool.and_eq_true, inB_iff] at h
  exact h.2.1
theorem findTo_all {s : SeenD} {l : List EntryR} (hs : okSeen s = true) (hl : ∀ x ∈ l, okEntry x.d = true) : FoundD s (l.map (·.d)) (findTo s l 1000) := by
  refine ⟨findTo_sorted s l 1000, fun n => ?_⟩
  rw [findTo_mem]
  unfold anyTo
  rw [List.take_length, List.any_eq_true]
  constructor
  · rintro ⟨_, _, x, hx, h⟩
    simp only [Bool.and_eq_true, beq_iff_eq] at h
    refine ⟨x.d, List.mem_map.2 ⟨x, hx, rfl⟩, ?_, h.1⟩
    rw [agrees_canon s (hl x hx), ← rAgrees_eq hs (hl x hx)]
    exact h.2
  · rintro ⟨y, hy, ha, rfl⟩
    obtain ⟨x, hx, rfl⟩ := List.mem_map.1 hy
    have := okEntry_sign (hl x hx)
    refine ⟨this.1, by omega, x, hx, ?_⟩
    rw [agrees_canon s (hl x hx), ← rAgrees_eq hs (hl x hx)] at ha
    simp [ha]

set_option maxRecDepth 100000 in
set_option maxHeartbeats 8000000 in
theorem rfind_any (A A' : Option Addr) (cap cap' : Nat) (l : List EntryR) (s : SeenD) (w : World) (hE : Ents w w.heap.size A l) (hl : l.length ≤ 1000000) (hA' : Ints w w.heap.size A' s.moves) (hc' : s.moves.length ≤ cap')
    (hs : okSeen s = true) (hok : ∀ x ∈ l, okEntry x.d = true) (hcaps : ∀ x ∈ l, x.d.form.moves.length ≤ x.cap) :
    Calls Tryz.prog 76 #[.slice A l.length cap, seenV s A' cap'] w fun e w' => ∃ A2 cap2 r, e = .returned (.slice A2 (List.length r) cap2) ∧ FoundD s (l.map (·.d)) r ∧ IntsF w' w.heap.size A2 r ∧ Below w.heap.size w w' ∧ r.length ≤ 1000 := by
  obtain ⟨i0, hi, hz0, hz1, hz2⟩ := info_parts Tryz.infoInt
  have HAG := Lib.hid (fun (w0 : World) (h : Grow w w0) (x : EntryR) (hx : x ∈ l) => rAgrees_any s x A' cap' w.heap.size w.heap.size w0 (hA'.below h) ((hE.below h).2 x hx).1 h.size h.size (SeenIn.of_ok hs) (okSeen_lost hs) (okEntry_okForm (hok x hx)) hc' (hcaps x hx))
  have HE := Lib.hid hE
  have HALL := Lib.hid (findTo_all hs hok)
  clear hE hA' hc' hs hok hcaps
  go_enter Tryz.func76, Tryz.ntmps76
  go_upto_region 1 with fail
  obtain ⟨W, hW, hg, hf, hsz⟩ := one_block w 50 (cellsS s A' cap')
  rw [hW]
  clear hW
  have HG := Lib.hid hg
  have HF := Lib.hid hf
  clear hf hg
  go_wp2_with fail
  go_loopw [5, 6] (fun v i wr => ∃ (k : Nat) (A2 : Option Addr) (cap2 : Nat), k ≤ 1000 ∧ i = .int .i64 k ∧ v = .slice A2 (findTo s l k).length cap2 ∧ wr.ownsRow W.heap.size 3 1 (.slice A2 (findTo s l k).length cap2) (findTo s l k).length ((findTo s l k).map (Value.int .i64)) ∧ Below W.heap.size W wr) (fun _ i _ => (1000 - intOf i).toNat)
  case atStart => exact ⟨0, none, 0, by omega, rfl, rfl, by simp [World.ownsRow, findTo], Below.refl _ _⟩
  case round =>
    obtain ⟨k, A2, cap2, hk, rfl, rfl, hown, hbw⟩ := hrel
    rename World => wr
    have HGR : Hid (Grow W wr) := hbw
    have HOWN := Lib.hid hown
    have hzr := hbw.size
    clear hown hbw
    by_cases hlt : k < 1000
    · have hk9 : (k : Int) ≤ 999 := by omega
      have hlen := findTo_length s l k
      have HSU := Lib.hid (findTo_succ s l k)
      generalize findTo s l k = rs at HOWN HSU hlen
      have HZ : Hid (anyTo s l k 0 = false) := by simp [Hid, anyTo]
      go_wp2_with fail
      go_loopw [7, 8] (fun v i wr3 => ∃ m : Nat, m ≤ l.length ∧ v = .bool (anyTo s l k m) ∧ i = .int .i64 m ∧ Grow wr wr3) (fun _ i _ => l.length - (intOf i).toNat)
      case atStart => exact ⟨0, Nat.zero_le _, by rw [HZ.out], rfl, Grow.refl _⟩
      case round =>
        obtain ⟨m, hm, rfl, rfl, hgr⟩ := hrel
        rename World => wr3
        have HG3' := Lib.hid hgr
        clear hgr
        by_cases hlt3 : m < l.length
        · obtain ⟨b, off, x, rfl, hb, hcx, hmx, HX⟩ := (HE.out.below ((HG.out.trans HGR.out).trans HG3'.out)).at_ hlt3
          have HCX := Lib.hid hcx
          have hbw : b < wr3.heap.size := by have := ((HG.out.trans HGR.out).trans HG3'.out).size; omega
          have HAX := Lib.hid (fun (w0 : World) (h : Grow wr3 w0) => HAG.out w0 (((HG.out.trans HGR.out).trans HG3'.out).trans h) x (List.mem_of_getElem? HX.out))
          have HS : Hid (anyTo s l k (m + 1) = (anyTo s l k m || (x.d.sign == (k : Int) && rAgreesD s x.d))) := anyTo_succ HX.out
          have hl1 : (m : Int) < l.length := by omega
          have HFR := Lib.hid ((HGR.out.trans HG3'.out).block HF.out)
          clear hcx hmx
          generalize rAgreesD s x.d = ag at HAX HS
          generalize hq : (x.d.sign == (k : Int)) = q at HS
          have HQ := Lib.hid hq
          clear hq
          generalize anyTo s l k m = is at HS
          go_upto_region 9 with fail
          refine wp_region_lit 18 [[], [(0, 19)], [(1, 20)], [(1, 20)], [(1, 20), (2, 21), (3, 22)], [(1, 20), (4, 23)], [(1, 20), (5, 24)], [(1, 20)], [(1, 20), (6, 25), (7, 26)], [(1, 20), (8, 27)], [(9, 28)], [(9, 28)], [(9, 28), (10, 29), (11, 30)], [(9, 28), (12, 31)], [(9, 28)], [(9, 28), (13, 32), (14, 33)], [(1, 20), (9, 28), (15, 34)], [(1, 20), (16, 35)]] Grow (fun i v w' => match i with
            | 0 => v = .bool is
            | 1 => v = .bool is
            | 2 => v = bif !is then .slice (some ⟨b, off, none⟩) l.length cap else undef
            | 3 => v = bif !is then .int .i64 m else undef
            | 4 => v = bif !is then .pointer (some ⟨b, off + m * 11, none⟩) else undef
            | 5 => v = bif !is then .pointer (some ⟨b, off + m * 11 + 1, none⟩) else undef
            | 6 => v = bif !is then .int .i64 x.d.sign else undef
            | 7 => v = bif !is then .int .i64 k else undef
            | 8 => v = bif !is then .bool q else undef
            | 9 => v = bif !is then .bool q else undef
            | 10 => v = bif !is && q then .slice (some ⟨b, off, none⟩) l.length cap else undef
            | 11 => v = bif !is && q then .int .i64 m else undef
            | 12 => v = bif !is && q then .pointer (some ⟨b, off + m * 11, none⟩) else undef
            | 13 => v = bif !is && q then entryV x else undef
            | 14 => v = bif !is && q then seenV s A' cap' else undef
            | 15 => v = bif !is && q then .bool ag else undef
            | 16 => v = bif !is then .bool (q && ag) else undef
            | 17 => v = .bool (is || (q && ag))
            | _ => False) (by kernel_rfl) (by kernel_rfl) (fun _ _ _ => Grow.trans) Grow.refl ?_ ?_ ?_
          · intro i v y y' h k
            match i, h with
            | 0, h | 1, h | 2, h | 3, h | 4, h | 5, h | 6, h | 7, h | 8, h | 9, h | 10, h | 11, h | 12, h | 13, h | 14, h | 15, h | 16, h | 17, h => exact h
          · rcases (show is = true ∨ (is = false ∧ q = false) ∨ (is = false ∧ q = true) by cases is <;> cases q <;> simp) with rfl | ⟨rfl, rfl⟩ | ⟨rfl, rfl⟩
            all_goals simp only [Bool.true_and, Bool.false_and, Bool.not_true, Bool.not_false, Bool.true_or, Bool.false_or, cond_true, cond_false]
            all_goals
              simp only [StepsLit, List.take_succ_cons, List.take_zero]
              refine ⟨?_, ?_, ?_, ?_, ?_, ?_, ?_, ?_, ?_, ?_, ?_, ?_, ?_, ?_, ?_, ?_, ?_, ?_, trivial⟩
            all_goals
              intro w5 hR
              have HG5 := Lib.hid hR.of_drew
              have hcx : ∀ j, j < 11 → w5.cell? ⟨b, off + m * 11 + j, none⟩ = (cellsE x)[j]? := fun j hj => (Below.cell (p := ⟨b, off + m * 11 + j, none⟩) HG5.out hbw).trans (HCX.out j hj)
              have hfc := (HG5.out.block HFR.out).cell
              clear hR
              have hx0 : w5.cell? ⟨b, off + m * 11, none⟩ = some (.int .i64 x.d.id) := hcx 0 (by omega)
              have hx1 : w5.cell? ⟨b, off + m * 11 + 1, none⟩ = some (.int .i64 x.d.sign) := hcx 1 (by omega)
              have hx2 : w5.cell? ⟨b, off + m * 11 + 2, none⟩ = some (.int .i64 x.d.regions) := hcx 2 (by omega)
              have hx3 : w5.cell? ⟨b, off + m * 11 + 3, none⟩ = some (.int .i64 x.d.form.right) := hcx 3 (by omega)
              have hx4 : w5.cell? ⟨b, off + m * 11 + 4, none⟩ = some (.int .i64 x.d.form.left) := hcx 4 (by omega)
              have hx5 : w5.cell? ⟨b, off + m * 11 + 5, none⟩ = some (.int .i64 x.d.form.column) := hcx 5 (by omega)
              have hx6 : w5.cell? ⟨b, off + m * 11 + 6, none⟩ = some (.int .i64 x.d.form.row) := hcx 6 (by omega)
              have hx7 : w5.cell? ⟨b, off + m * 11 + 7, none⟩ = some (.int .i64 x.d.form.face) := hcx 7 (by omega)
              have hx8 : w5.cell? ⟨b, off + m * 11 + 8, none⟩ = some (.slice x.A x.d.form.moves.length x.cap) := hcx 8 (by omega)
              have hx9 : w5.cell? ⟨b, off + m * 11 + 9, none⟩ = some (.int .i64 x.d.low) := hcx 9 (by omega)
              have hx10 : w5.cell? ⟨b, off + m * 11 + 10, none⟩ = some (.int .i64 x.d.high) := hcx 10 (by omega)
              clear hcx
              simp only [depV, Region.wanted, yielded, cond_true]
              repeat (rintro _ rfl)
              try go_simp
            all_goals first
              | (with_reducible exact Grow.refl _)
              | (with_reducible refine ⟨Grow.refl _, ?_⟩; have h := HQ.out; simpa using h)
              | (intro h; exact absurd h (by simp [undef]))
              | skip
            · refine (HAX.out _ HG5.out).mono ?_
              rintro e w6 ⟨rfl, hb6⟩
              exact ⟨hb6, rfl⟩
          · intro w5 hR
            have HG5 := Lib.hid (HG3'.out.trans hR.of_drew)
            clear hR HAX
            simp only [finVC, List.take_succ_cons, List.take_zero, List.drop_succ_cons, List.drop_zero]
            repeat (rintro _ rfl)
            simp only [Act.put, List.setIfInBounds_toArray, List.set_cons_succ, List.set_cons_zero]
            rw [← HS.out]
            generalize hst : anyTo s l k (m + 1) = st
            have HST2 := Lib.hid hst
            clear hst HS
            go_wp2
            go_roundw
            case rel => exact ⟨m + 1, by omega, by rw [HST2.out], by go_num, HG5.out⟩
            case measure => simp [intOf]; omega
        · obtain rfl : m = l.length := by omega
          generalize anyTo s l k l.length = fin at HSU
          have HOWN3 := Lib.hid (own_grow HOWN.out HG3'.out)
          have hz3 := HG3'.out.size
          cases fin with
          | false =>
            have hsu := HSU.out
            rw [if_neg (by decide), List.append_nil] at hsu
            have HSU2 := Lib.hid hsu
            clear hsu
            go_wp2_with fail
            go_roundw
            case rel => exact ⟨k + 1, A2, cap2, by omega, by go_num, by rw [HSU2.out], by rw [HSU2.out]; exact HOWN3.out, HGR.out.trans HG3'.out⟩
            case measure => simp [intOf]; omega
          | true =>
            have hsu := HSU.out
            rw [if_pos rfl] at hsu
            have HSU2 := Lib.hid hsu
            clear hsu
            go_wp2_with (at_builtin; refine wpList_append_own _ rfl _ _ 22 rfl W.heap.size 3 i0 (.int .i64 0) 1 8 Tryz.underlying22 hi hz0 hz1 hz2 rfl (by decide) _ _ _ rfl (HOWN3.out.alloc _) ⟨wr3.heap.size, 0, none⟩ 1 1 [.int .i64 k] rfl rfl ?c1 ?c2 ?c3 ?c4 ?c5 ?_)
            case c2 => simp [Value.oneCell']
            case c3 => unfold maxLen; omega
            case c4 => omega
            case c5 => first | omega | (simp; omega) | (have := wr3.size_alloc; simp [World.alloc]; omega)
            intro v' w6 hown' hgrow _
            obtain ⟨A3, cap3, rfl⟩ := own_form hown'
            have hb1 := below_grown ((HGR.out.trans HG3'.out).trans (Grow.alloc _ _)) (HOWN3.out.alloc _) hgrow (by simp; omega)
            have HO := Lib.hid hown'
            have HB1 := Lib.hid hb1
            clear hown' hgrow hb1
            go_wp2
            go_roundw
            case rel => exact ⟨k + 1, A3, cap3, by omega, by go_num, by rw [HSU2.out, List.length_append]; rfl, by rw [HSU2.out, List.length_append, List.map_append]; exact HO.out, HB1.out⟩
            case measure => simp [intOf]; omega
    · obtain rfl : k = 1000 := by omega
      have HRES := Lib.hid (own_intsF HOWN.out)
      have hlen := findTo_length s l 1000
      generalize findTo s l 1000 = rs at HRES HALL hlen ⊢
      clear HOWN
      go_wp2
      go_ret
      exact ⟨A2, cap2, rs, rfl, HALL.out, HRES.out.mono (by have := HG.out.size; omega), HG.out.trans HGR.out, hlen⟩

set_option maxRecDepth 100000 in
set_option maxHeartbeats 2000000 in
theorem rcheckSeen_any (A A' : Option Addr) (cap cap' : Nat) (l : List EntryR) (s : SeenD) (w : World) (hE : Ents w w.heap.size A l) (hl : l.length ≤ 1000000) (hA' : Ints w w.heap.size A' s.moves) (hl' : s.moves.length ≤ 1000000) :
    Calls Tryz.prog 75 #[.slice A l.length cap, seenV s A' cap'] w fun e w' => e = .returned (.int .i64 (findErr (l.map (·.d)) s)) ∧ Below w.heap.size w w' := by
  have HCK := Lib.hid (fun (w0 : World) (h : Grow w w0) => rCheck_any A cap w.heap.size l w0 (hE.below h) hl h.size)
  have HSN := Lib.hid (fun (w0 : World) (h : Grow w w0) => rIsSeen_any s A' cap' w.heap.size w0 (hA'.below h) (by omega) h.size)
  have HFE : Hid (findErr (l.map (·.d)) s = if bookErr (l.map (·.d)) = 0 then (if okSeen s = true then 0 else 13) else bookErr (l.map (·.d))) := rfl
  clear hE hA'
  go_enter Tryz.func75, Tryz.ntmps75
  go_upto_region 1 with fail
  obtain ⟨W, hW, hg, hf, hsz⟩ := one_block w 50 (cellsS s A' cap')
  rw [hW]
  clear hW
  have HG := Lib.hid hg
  have HF := Lib.hid hf
  clear hf hg
  go_wp2_with fail
  refine (HCK.out _ HG.out).mono ?_
  rintro e w2 ⟨rfl, hb2⟩
  have HG2 : Hid (Grow w w2) := HG.out.trans hb2
  have HF2 := Lib.hid (Grow.block hb2 HF.out)
  have hfc := HF2.out.cell
  clear hb2
  generalize bookErr (l.map (·.d)) = be at HFE
  by_cases h0 : be = 0
  · subst h0
    rw [if_pos rfl] at HFE
    go_wp2_with fail
    refine (HSN.out _ HG2.out).mono ?_
    rintro e w3 ⟨rfl, hb3⟩
    have HG3 : Hid (Grow w w3) := HG2.out.trans hb3
    clear hb3
    generalize okSeen s = ok at HFE
    cases ok with
    | true =>
      rw [if_pos rfl] at HFE
      go_wp2_with fail
      go_ret
      exact ⟨by rw [HFE.out]; rfl, HG3.out⟩
    | false =>
      rw [if_neg (by decide)] at HFE
      go_wp2_with fail
      go_ret
      exact ⟨by rw [HFE.out]; rfl, HG3.out⟩
  · rw [if_neg h0] at HFE
    go_wp2_with fail
    go_ret
    exact ⟨by rw [HFE.out]; rfl, HG2.out⟩

theorem FoundD.is {s : SeenD} {l : List EntryD} {r : List Int} (h : FoundD s l r) : r = foundL s l := h.unique (foundL_of s l)
/-- what is known where the sight and the book are valid -/
theorem findErr_ok {l : List EntryD} {s : SeenD} (h : findErr l s = 0) : okSeen s = true ∧ bookErr l = 0 := by
  unfold findErr at h
  split at h
  · rename_i hb
    split at h
    · rename_i hs; exact ⟨hs, hb⟩
    · cases h
  · exact absurd h ‹_›

set_option maxRecDepth 100000 in
set_option maxHeartbeats 2000000 in
theorem rFind_any (A A' : Option Addr) (cap cap' : Nat) (l : List EntryR) (s : SeenD) (w : World) (hE : Ents w w.heap.size A l) (hl : l.length ≤ 1000000) (hA' : Ints w w.heap.size A' s.moves) (hl' : s.moves.length ≤ 1000000) (hc' : s.moves.length ≤ cap') (hcaps : ∀ x ∈ l, x.d.form.moves.length ≤ x.cap) :
    Calls Tryz.prog 37 #[.slice A l.length cap, seenV s A' cap'] w fun e w' => Below w.heap.size w w' ∧ ∃ A2 cap2 r, e = .returned (.tuple #[.slice A2 (List.length r) cap2, .int .i64 (findErr (l.map (·.d)) s)]) ∧ IntsF w' w.heap.size A2 r ∧
      (findErr (l.map (·.d)) s ≠ 0 → r = []) ∧ (findErr (l.map (·.d)) s = 0 → FoundD s (l.map (·.d)) r) ∧ r.length ≤ 1000 := by
  have HCK := Lib.hid (fun (w0 : World) (h : Grow w w0) => rcheckSeen_any A A' cap cap' l s w0 ((hE.below h).more h.size) hl ((hA'.below h).more h.size) hl')
  have HFD := Lib.hid (fun (h0 : findErr (l.map (·.d)) s = 0) (w0 : World) (h : Grow w w0) => rfind_any A A' cap cap' l s w0 ((hE.below h).more h.size) hl ((hA'.below h).more h.size) hc' (findErr_ok h0).1 (fun x hx => (bookErr_ok (findErr_ok h0).2).2.1 x.d (List.mem_map.2 ⟨x, hx, rfl⟩)) hcaps)
  clear hE hA'
  go_enter Tryz.func37, Tryz.ntmps37
  go_upto_region 1 with fail
  obtain ⟨W, hW, hg, hf, hsz⟩ := one_block w 50 (cellsS s A' cap')
  rw [hW]
  clear hW
  have HG := Lib.hid hg
  have HF := Lib.hid hf
  have hfc := hf.cell
  clear hf hg
  go_wp2_with fail
  refine (HCK.out _ HG.out).mono ?_
  rintro e w2 ⟨rfl, hb2⟩
  have HG2 : Hid (Grow w w2) := HG.out.trans hb2
  have HF2 := Lib.hid (Grow.block hb2 HF.out)
  clear hfc
  have hfc := HF2.out.cell
  clear hb2
  generalize hfe : findErr (l.map (·.d)) s = fe at HFD
  have HFEQ := Lib.hid hfe
  clear hfe
  by_cases h0 : fe = 0
  · subst h0
    go_wp2_with fail
    refine (HFD.out (by trivial) _ HG2.out).mono ?_
    rintro e w3 ⟨A2, cap2, r, rfl, hr, hi, hb3, hl3⟩
    have HG3 : Hid (Grow w w3) := HG2.out.trans hb3
    have HI3 := Lib.hid (hi.mono HG2.out.size)
    have HR := Lib.hid hr
    clear hb3 hi hr
    go_wp2
    go_ret2
    exact ⟨HG3.out, A2, cap2, r, by rw [HFEQ.out]; rfl, HI3.out, fun h => absurd HFEQ.out h, fun _ => HR.out, hl3⟩
  · go_wp2_with fail
    go_ret2
    exact ⟨HG2.out, none, 0, [], by rw [HFEQ.out]; rfl, .inl rfl, fun _ => rfl, fun h => absurd (HFEQ.out.symm.trans h) h0, by simp⟩

theorem bestOf_step (g : Nat → Nat) (k : Nat) : bestOf g (k + 1) = if (k = 0 ∨ g k < (bestOf g k).2) then (k, g k) else bestOf g k := rfl

end Go.Proofs.YtfpmkolaiomabaaGreat
