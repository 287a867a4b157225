/- Counts: how many teams break just the rules of a set. Contra: the fewest rules that no team keeps together, out of how many teams break just which rules. WhyApi: the fewest rules that no team keeps together, as the program finds them. -/
import Derived.Test.YticeekkfdkfcgaaTeamApi
import Derived.Deep.WholeRow
import Derived.Sort.CutIn
import Derived.Test.YticeekkfdkfcgaaRWhy
import Derived.WalkMore
import Derived.Test.YticeekkfdkfcgaaRBroken
namespace Go.Proofs.Yticeekkfdkfcgaa
open Go.RowKit Go.Shelf

attribute [local go_sem] Oper.semAt_some

def cntL (f : Fin 1024 → Nat) (l : List (Fin 1024)) (s : Nat) : Nat := (l.filter fun x => f x == s).length
def cntN (f : Fin 1024 → Nat) (l : List (Fin 1024)) : List Nat := (List.range 64).map (cntL f l)
theorem cntL_snoc (f : Fin 1024 → Nat) (l : List (Fin 1024)) (x : Fin 1024) (s : Nat) : cntL f (l ++ [x]) s = cntL f l s + if f x = s then 1 else 0 := by
  unfold cntL
  rw [List.filter_append, List.length_append]
  by_cases h : f x = s
  · simp [h]
  · simp [h]
theorem cntN_len (f : Fin 1024 → Nat) (l : List (Fin 1024)) : (cntN f l).length = 64 := by simp [cntN]
theorem cntN_at (f : Fin 1024 → Nat) (l : List (Fin 1024)) {s : Nat} (h : s < 64) : (cntN f l)[s]? = some (cntL f l s) := by simp [cntN, h]
theorem cntN_snoc (f : Fin 1024 → Nat) (l : List (Fin 1024)) (x : Fin 1024) : cntN f (l ++ [x]) = (cntN f l).set (f x) (cntL f l (f x) + 1) := by
  refine List.ext_getElem? fun i => ?_
  rw [List.getElem?_set, cntN_len]
  by_cases hi : i < 64
  · rw [cntN_at f _ hi, cntN_at f _ hi, cntL_snoc]
    by_cases e : f x = i
    · subst e; simp [hi]
    · simp [e]
  · have h1 : (cntN f (l ++ [x]))[i]? = none := List.getElem?_eq_none (by rw [cntN_len]; omega)
    have h2 : (cntN f l)[i]? = none := List.getElem?_eq_none (by rw [cntN_len]; omega)
    rw [h1, h2]
    split
    · split
      · omega
      · rfl
    · rfl
theorem cntL_le (f : Fin 1024 → Nat) (l : List (Fin 1024)) (s : Nat) : cntL f l s ≤ l.length := List.length_filter_le _ _

abbrev z64 : Array Value := #[.int .i64 0, .int .i64 0, .int .i64 0, .int .i64 0, .int .i64 0, .int .i64 0, .int .i64 0, .int .i64 0, .int .i64 0, .int .i64 0, .int .i64 0, .int .i64 0, .int .i64 0, .int .i64 0, .int .i64 0, .int .i64 0, .int .i64 0, .int .i64 0, .int .i64 0, .int .i64 0, .int .i64 0, .int .i64 0, .int .i64 0, .int .i64 0, .int .i64 0, .int .i64 0, .int .i64 0, .int .i64 0, .int .i64 0, .int .i64 0, .int .i64 0, .int .i64 0, .int .i64 0, .int .i64 0, .int .i64 0, .int .i64 0, .int .i64 0, .int .i64 0, .int .i64 0, .int .i64 0, .int .i64 0, .int .i64 0, .int .i64 0, .int .i64 0, .int .i64 0, .int .i64 0, .int .i64 0, .int .i64 0, .int .i64 0, .int .i64 0, .int .i64 0, .int .i64 0, .int .i64 0, .int .i64 0, .int .i64 0, .int .i64 0, .int .i64 0, .int .i64 0, .int .i64 0, .int .i64 0, .int .i64 0, .int .i64 0, .int .i64 0, .int .i64 0]
theorem z64_eq (f : Fin 1024 → Nat) : natCells (cntN f []) = z64 := rfl
theorem info64 : (Try.prog.info? 72).map (·.size) = some 64 := by kernel_rfl
theorem natCells_size (l : List Nat) : (natCells l).size = l.length := by simp [natCells]
theorem natCells_at {l : List Nat} {k v : Nat} (h : l[k]? = some v) : (natCells l)[k]? = some (.int .i64 (v : Nat)) := by simp [natCells, h]
theorem natCells_one (l : List Nat) : (natCells l).all (·.oneCell') = true := by
  rw [Array.all_eq_true_iff_forall_mem]
  intro x hx
  simp only [natCells, List.mem_toArray, List.mem_map] at hx
  obtain ⟨n, _, rfl⟩ := hx
  rfl
theorem block_ownP {β : Type} (B q : Nat) (t : TypeId) (g : β → Array Value) : OwnFrom B (fun (x : β) W => BlockIs W q t (g x)) := fun _ _ _ _ hs hg hr => block_own hs hg hr
theorem set_row {w : World} {g : Nat} {t : TypeId} {old : Array Value} (h : BlockIs w g t old) (cs : Array Value) : BlockIs (w.setRow g cs) g t cs := setRow_heap w g old cs t (0, 0) h
theorem row_other (w : World) {g q : Nat} (cs : Array Value) (h : q ≠ g) : (w.setRow g cs).heap[q]? = w.heap[q]? := by
  unfold World.setRow
  rw [Array.getElem?_modify, if_neg (fun e => h e.symm)]
theorem row_below (w : World) {B g : Nat} (cs : Array Value) (h : B ≤ g) : Below B w (w.setRow g cs) :=
  ⟨rfl, rfl, rfl, by simp [World.setRow], fun k hk => row_other w cs (by omega)⟩

set_option maxRecDepth 100000 in
set_option maxHeartbeats 16000000 in
theorem counts_any (c : CrewR) (j : JobD) (law : LawD) (bA : Option Addr) (bc : Nat) (f : Fin 1024 → Nat) (w : World) (hl8 : c.people.length ≤ 8) (hf : ∀ x, f x < 64) (hBC : ∀ (x : Fin 1024) (w0 : World), Grow w w0 → Calls Try.prog 42 #[taskV c j law bA bc, .int .i64 (x.val : Nat)] w0 fun e w' => e = .returned (.int .i64 (f x : Nat)) ∧ Below w0.heap.size w0 w') :
    Calls Try.prog 49 #[taskV c j law bA bc] w fun e w' => e = .returned (.agg (natCells (cntN f (tmTo (2 ^ c.people.length))))) ∧ Below w.heap.size w w' := by
  obtain ⟨L, hL⟩ : ∃ z, cntN f (tmTo (2 ^ c.people.length)) = z := ⟨_, rfl⟩
  have hLl : L.length = 64 := by rw [← hL]; exact cntN_len _ _
  obtain ⟨PO, hPO⟩ : ∃ z : Ending → World → Prop, (fun e w' => e = Ending.returned (.agg (natCells L)) ∧ Below w.heap.size w w') = z := ⟨_, rfl⟩
  have HPO : Hid (∀ w', Below w.heap.size w w' → PO (Ending.returned (.agg (natCells L))) w') := Lib.hid (fun w' hb => by rw [← hPO]; exact ⟨rfl, hb⟩)
  have HSZ : Hid ((Try.prog.info? 72).map (·.size) = some (natCells L).size) := Lib.hid (by rw [natCells_size, hLl]; exact info64)
  have HS2 : Hid ((z64).size = (natCells L).size) := Lib.hid (by rw [natCells_size, hLl]; rfl)
  have HL := Lib.hid hL
  rw [hL, hPO]
  clear hL hLl hPO
  refine (callsIn_wide (n := 8)).1 ?_
  have hro : Fence.wide.round = none := rfl
  have h42 : Fence.wide.fn 42 := trivial
  refine callsIn_of_wp_marks Try.func49 rfl trivial ?_ hro
  simp only [Try.ntmps49, List.size_toArray, List.length_cons, List.length_nil, Nat.reduceAdd, Nat.reduceSub, Array.replicate_succ, Array.replicate_zero, List.push_toArray, List.append_toArray, List.nil_append, List.cons_append]
  have HBC := Lib.hid hBC
  have HFL := Lib.hid hf
  clear hBC hf
  gi_wp2
  obtain ⟨W, hW, hg, b0, b1, b2, hz⟩ := three_blocks w 63 72 72 (cellsT c j law bA bc) z64 z64
  rw [hW]
  clear hW
  have hKw : Below w.heap.size w W := hg
  refine wpIn_rangeMeth (first := #[taskV c j law bA bc]) (lb := #[]) (gf := 63) rfl (enters_of Try.func63 (by kernel_rfl) rfl)
    (teams_stops c j law bA bc w.heap.size w.heap.size hl8 W (by omega)) (by omega) (by omega) (Below.refl _ _) (fun _ => rfl)
    (fun pre W' => BlockIs W' (w.heap.size + 1 + 1) 72 (natCells (cntN f pre)) ∧ BlockIs W' w.heap.size 63 (cellsT c j law bA bc) ∧ BlockIs W' (w.heap.size + 1) 72 z64 ∧ Below w.heap.size w W' ∧ W.heap.size ≤ W'.heap.size)
    (fun _ _ => False)
    (OwnFrom.and (block_ownP _ _ _ _) (OwnFrom.and (block_ownF _ _ _ _) (OwnFrom.and (block_ownF _ _ _ _) (OwnFrom.and (ownFrom_below (Nat.le_refl _) (by omega)) (ownFrom_size _ _)))))
    (fun _ _ _ _ hs _ _ => hs)
    ⟨by rw [z64_eq]; exact b2, b0, b1, hKw, Nat.le_refl _⟩
    (fun x a' _ => a' = { tmps := #[taskV c j law bA bc, .pointer (some ⟨w.heap.size, 0, none⟩), .pointer (some ⟨w.heap.size + 1, 0, none⟩), .pointer (some ⟨w.heap.size + 1 + 1, 0, none⟩), .int .i64 (x.val : Nat), taskV c j law bA bc, .func (.func 63) #[taskV c j law bA bc] #[], .int .i64 (x.val : Nat), undef, undef, undef, undef, undef, undef, undef, undef], defers := [] })
    (fun _ _ _ _ _ _ hs _ _ => hs)
    ?assign ?body ?done ?stop
  case assign =>
    rintro l pre x W3 K hi hK
    gi_wp2
    exact hK _ _ (KeepM.refl _ _ _ _) hi rfl
  case body =>
    rintro l pre x a' W3 hl' ⟨r, hr⟩ ⟨bC, bT, bZ, hB, hZ⟩ rfl hlt
    have hsn := cntN_snoc f pre x
    have hfx := HFL.out x
    have hcx := cntN_at f pre hfx
    have hcl := cntL_le f pre (f x)
    have HFX := Lib.hid (HBC.out x W3 hB)
    obtain ⟨fx, hfe⟩ : ∃ z, f x = z := ⟨_, rfl⟩
    rw [hfe] at HFX hsn hfx hcx hcl
    obtain ⟨cv, hcv⟩ : ∃ z, cntL f pre fx = z := ⟨_, rfl⟩
    rw [hcv] at hsn hcx hcl
    have HSN := Lib.hid hsn
    have HCX := Lib.hid hcx
    have cT := bT.cell
    have HBC3 := Lib.hid bC
    have HBT := Lib.hid bT
    have HBZ := Lib.hid bZ
    have hx0 : (0 : Int) ≤ (fx : Int) := by omega
    have hx1 : (fx : Int) < 64 := by omega
    have hx2 : fx < 64 := hfx
    have hv1 : cv < 1024 := by omega
    clear hsn hcx hfe hcv bC bT bZ hcl hfx
    gi_wp2
    refine (CallsIn.inRound _ (callsIn_wide.2 HFX.out)).mono ?_
    rintro e w5 ⟨rfl, hg5⟩
    have C5 := Grow.block hg5 HBC3.out
    have HT5 := Lib.hid (Grow.block hg5 HBT.out)
    have HZ5 := Lib.hid (Grow.block hg5 HBZ.out)
    have HK5 := Lib.hid (KeepM.of_grow (n₀ := w.heap.size) (q := w.heap.size) (m := W.heap.size) hg5 (by have := hB.size; omega))
    have HB5 : Hid (Below w.heap.size w w5) := Lib.hid (hB.trans (Below.mono hg5 hB.size))
    have HZZ : Hid (W.heap.size ≤ w5.heap.size) := Lib.hid (by have := Below.size hg5; omega)
    have cC : w5.cell? ⟨w.heap.size + 1 + 1, fx, none⟩ = some (.int .i64 (cv : Nat)) := by rw [C5.cell]; exact natCells_at HCX.out
    have fC := C5.frozen fx
    have HC6 : Hid (BlockIs (w5.setCell ⟨w.heap.size + 1 + 1, fx, none⟩ (.int .i64 ((cv : Int) + 1))) (w.heap.size + 1 + 1) 72 (natCells (cntN f (pre ++ [x])))) := Lib.hid (by
      rw [HSN.out, ← natCells_set]
      exact C5.near fx (.int .i64 ((cv + 1 : Nat) : Int)))
    clear hg5 cT C5
    gi_wp2
    exact ⟨HK5.out.trans (KeepM.store w5 fx _ (b := w.heap.size + 1 + 1) (by omega) (by omega) (by omega)), HC6.out, HT5.out.far (p := ⟨w.heap.size + 1 + 1, fx, none⟩) (by simp; omega) _, HZ5.out.far (p := ⟨w.heap.size + 1 + 1, fx, none⟩) (by simp) _, HB5.out.setCell (p := ⟨w.heap.size + 1 + 1, fx, none⟩) (by simp; omega) _, by have := HZZ.out; simp; omega⟩
  case done =>
    rintro D zs W3 hD rfl ⟨bC, bT, bZ, hB, hZ⟩ hK
    gi_upto_region 5 with fail
    refine wpIn_wide.2 ?_
    have HK := Lib.hid hK
    have HC := Lib.hid bC
    have HZ := Lib.hid bZ
    have HB := Lib.hid hB
    rw [HL.out] at HC
    clear hK bC bZ bT hB hZ
    go_wp2_with (first | (refine wpList_load_row rfl 72 _ rfl (w.heap.size + 1 + 1) rfl 72 (natCells L) (0, 0) _ HC.out Try.underlying72 rfl HSZ.out ?_) | (refine wpList_store_row rfl 72 _ _ rfl (w.heap.size + 1) (natCells L) rfl rfl 72 z64 HZ.out HSZ.out HS2.out (natCells_one _) ?_))
    obtain ⟨W4, hW4⟩ : ∃ z, W3.setRow (w.heap.size + 1) (natCells L) = z := ⟨_, rfl⟩
    have kB : BlockIs W4 (w.heap.size + 1) 72 (natCells L) := by rw [← hW4]; exact set_row HZ.out _
    have kK : W4.heap[D]? = some (.deferred (some [])) := by rw [← hW4, row_other _ _ (by omega)]; exact HK.out
    have kW : Below w.heap.size w W4 := by rw [← hW4]; exact HB.out.trans (row_below _ _ (by omega))
    rw [hW4]
    clear hW4
    gi_wp2
    refine ⟨by simp, .inl ⟨_, _, rfl, run_takeDeferred kK, ?_⟩⟩
    refine ⟨_, results_cell_row rfl _ _ (w.heap.size + 1) 72 (natCells L) (0, 0) _ rfl (OwnFrom.putObj (block_ownF (β := Unit) 0 _ _ _) (s := ()) _ kB (Nat.zero_le _) kK rfl) Try.underlying72 rfl HSZ.out, ?_⟩
    exact HPO.out _ (kW.trans (belowK_b (w := w) (Nat.le_refl _) _ D _ _ (by omega) kK rfl rfl))
  case stop =>
    rintro D pre W3 hD _ h _
    exact h.elim

end Go.Proofs.Yticeekkfdkfcgaa

namespace Go.Proofs.Yticeekkfdkfcgaa
open Go.RowKit

/-- does some team that is counted keep all rules of a set? -/
def hitL (L : List Nat) (set b : Nat) : Bool := decide (0 < (L[b]?).getD 0) && (b &&& set == 0)
def anyL (L : List Nat) (set k : Nat) : Bool := (List.range k).any (hitL L set)
theorem anyL_succ (L : List Nat) (set k : Nat) : anyL L set (k + 1) = (anyL L set k || hitL L set k) := by unfold anyL; rw [List.range_succ, List.any_append]; simp
theorem anyL_of {L : List Nat} {set k m : Nat} (h : hitL L set k = true) (hk : k < m) : anyL L set m = true := List.any_eq_true.2 ⟨k, List.mem_range.2 hk, h⟩
/-- the first one of the smallest sets that p does not hold of, 63 if there is none before -/
def conTo (p : Nat → Bool) : Nat → Nat
  | 0 => 63
  | k + 1 => if p k = true then conTo p k else if popD k < popD (conTo p k) then k else conTo p k
theorem conTo_yes {p : Nat → Bool} {k : Nat} (h : p k = true) : conTo p (k + 1) = conTo p k := by rw [conTo, if_pos h]
theorem conTo_less {p : Nat → Bool} {k : Nat} (h : p k = false) (hb : popD k < popD (conTo p k)) : conTo p (k + 1) = k := by rw [conTo, if_neg (by rw [h]; decide), if_pos hb]
theorem conTo_more {p : Nat → Bool} {k : Nat} (h : p k = false) (hb : ¬ popD k < popD (conTo p k)) : conTo p (k + 1) = conTo p k := by rw [conTo, if_neg (by rw [h]; decide), if_neg hb]
theorem conTo_lt {p : Nat → Bool} : ∀ k, k ≤ 64 → conTo p k < 64
  | 0, _ => by show 63 < 64; omega
  | k + 1, h => by
    have ih := conTo_lt (p := p) k (by omega)
    rw [conTo]
    split
    · exact ih
    · split <;> omega
theorem pop_63 : ∀ k : Nat, k < 63 → popD k < popD 63 := by
  have h : ∀ k ∈ List.range 63, popD k < popD 63 := by decide +kernel
  exact fun k hk => h k (List.mem_range.2 hk)
theorem con_why {p : Nat → Bool} (k : Nat) (hk : k ≤ 63) : (whyTo p k = none → conTo p k = 63) ∧ ∀ b, whyTo p k = some b → conTo p k = b := by
  induction k with
  | zero => exact ⟨(fun _ => rfl), (fun b h => by cases h)⟩
  | succ k ih =>
    obtain ⟨h1, h2⟩ := ih (by omega)
    cases hp : p k with
    | true =>
      rw [whyTo_yes hp, conTo_yes hp]
      exact ⟨h1, h2⟩
    | false =>
      cases h0 : whyTo p k with
      | none =>
        have hc := h1 h0
        rw [whyTo_first hp h0, conTo_less hp (by rw [hc]; exact pop_63 k (by omega))]
        exact ⟨(fun h => by cases h), (fun b h => by cases h; rfl)⟩
      | some b =>
        have hc := h2 b h0
        by_cases hb : popD k < popD b
        · rw [whyTo_less hp h0 hb, conTo_less hp (by rw [hc]; exact hb)]
          exact ⟨(fun h => by cases h), (fun b h => by cases h; rfl)⟩
        · rw [whyTo_more hp h0 hb, conTo_more hp (by rw [hc]; exact hb), hc]
          exact ⟨(fun h => by cases h), (fun b h => by cases h; rfl)⟩
theorem con_all {p : Nat → Bool} (h : p 63 = false) : whyTo p 64 = some (conTo p 64) := by
  obtain ⟨h1, h2⟩ := con_why (p := p) 63 (Nat.le_refl _)
  cases h0 : whyTo p 63 with
  | none =>
    have hc := h1 h0
    rw [whyTo_first h h0, conTo_more h (by rw [hc]; omega), hc]
  | some b =>
    have hc := h2 b h0
    have hb := whyTo_lt 63 b h0
    have hp := pop_63 b hb
    rw [whyTo_more h h0 (by omega), conTo_more h (by rw [hc]; omega), hc]
/-- the counted teams are the teams -/
theorem any_kept {f : Nat → Nat} {m set : Nat} (hf : ∀ x : Fin 1024, f x.val < 64) : anyL (cntN (fun x => f x.val) (tmTo m)) set 64 = keptTo f set m := by
  rw [Bool.eq_iff_iff]
  unfold anyL keptTo
  rw [List.any_eq_true, List.any_eq_true]
  constructor
  · rintro ⟨b, hb, h⟩
    have hb64 := List.mem_range.1 hb
    unfold hitL at h
    rw [cntN_at _ _ hb64, Bool.and_eq_true, decide_eq_true_eq] at h
    have h1 : 0 < ((tmTo m).filter fun x => f x.val == b).length := h.1
    obtain ⟨x, hx⟩ := List.exists_mem_of_length_pos h1
    rw [List.mem_filter] at hx
    have e : f x.val = b := by simpa using hx.2
    exact ⟨x, hx.1, by rw [e]; exact h.2⟩
  · rintro ⟨x, hx, h⟩
    refine ⟨f x.val, List.mem_range.2 (hf x), ?_⟩
    unfold hitL
    rw [cntN_at _ _ (hf x), Bool.and_eq_true, decide_eq_true_eq]
    refine ⟨?_, h⟩
    show 0 < ((tmTo m).filter fun y => f y.val == f x.val).length
    exact List.length_pos_of_mem (List.mem_filter.2 ⟨hx, by simp⟩)

theorem index64 {L : List Nat} {i v : Nat} (h : L[i]? = some v) (hi : i < 64) (w : World) : (Instr.index 72 (.agg (natCells L)) (.int .i64 (i : Nat))).run Try.prog w = .ok (.int .i64 (v : Nat)) w := by
  obtain ⟨i0, hi0, hz0, hz1, hz2⟩ := info_parts Try.infoInt
  have hin : (0 : Int) ≤ (i : Int) ∧ (i : Int) < ((64 : Nat) : Int) := by omega
  have ha : (isAgg 3).run Try.prog w = .ok false w := by
    unfold isAgg
    rw [Sem.run_bind, run_underlying Try.underlying3 w]
    rfl
  have hc := natCells_at h
  simp only [Instr.index, asIntOf, Sem.run_bind, Sem.run_pure, Result.andThen_ok, run_underlying Try.underlying72, if_pos hin, Int.toNat_natCast, sizeOf, typeInfo]
  simp [Sem.run_bind, hi0, hz1, part, ha, hc, Result.andThen]

set_option maxRecDepth 100000 in
set_option maxHeartbeats 16000000 in
theorem contra_any (L : List Nat) (w : World) (hL : L.length = 64) :
    Calls Try.prog 50 #[.agg (natCells L)] w fun e w' => e = .returned (.int .i64 (conTo (fun s => anyL L s 64) 64 : Nat)) ∧ Below w.heap.size w w' := by
  have HSZ : Hid ((Try.prog.info? 72).map (·.size) = some (natCells L).size) := Lib.hid (by rw [natCells_size, hL]; exact info64)
  have HAT : Hid (∀ k, k < 64 → ∃ v, L[k]? = some v) := Lib.hid (fun k hk => ⟨L[k]'(by omega), List.getElem?_eq_getElem (by omega)⟩)
  have HC := Lib.hid (fun (s : Nat) (h : s < 1024) (w0 : World) => count_any s w0 h)
  obtain ⟨p, hp⟩ : ∃ z : Nat → Bool, (fun s => anyL L s 64) = z := ⟨_, rfl⟩
  have HP : Hid (∀ s, p s = anyL L s 64) := Lib.hid (fun s => by rw [← hp])
  rw [hp]
  have HLL := Lib.hid hL
  clear hp hL
  go_enter Try.func50, Try.ntmps50
  go_wp2
  go_step3
  obtain ⟨W, hW, hg, hfr, hsz⟩ := one_block w 72 (natCells L)
  rw [hW]
  clear hW
  have HG := Lib.hid hg
  have HF := Lib.hid hfr
  clear hg hfr hsz
  go_wp2
  go_step3
  go_wp2
  go_loopw [3, 7] (fun sv iv wr => ∃ k : Nat, k ≤ 64 ∧ iv = .int .i64 k ∧ sv = .int .i64 (conTo p k : Nat) ∧ wr = W) (fun _ v _ => 64 - (intOf v).toNat)
  case atStart => exact ⟨0, by omega, rfl, rfl, rfl⟩
  case round =>
    obtain ⟨k, hk, rfl, rfl, rfl⟩ := hrel
    have hcl := conTo_lt (p := p) k hk
    by_cases hlt : k < 64
    · have hd : decide ((k : Int) < 64) = true := decide_eq_true (by omega)
      have HPK : Hid (p k = anyL L k 64) := Lib.hid (HP.out k)
      have HY := Lib.hid (conTo_yes (p := p) (k := k))
      have HLE := Lib.hid (conTo_less (p := p) (k := k))
      have HMO := Lib.hid (conTo_more (p := p) (k := k))
      obtain ⟨sm, hsm⟩ : ∃ z, conTo p k = z := ⟨_, rfl⟩
      rw [hsm] at hcl HY HLE HMO ⊢
      clear hsm
      go_upto_region 5 with fail
      clear hd
      go_wp2_with (refine wpList_load_row rfl 72 _ rfl w.heap.size rfl 72 (natCells L) (0, 0) _ HF.out Try.underlying72 rfl HSZ.out ?_)
      go_loopw [11] (fun iv wx => ∃ i : Nat, i ≤ 64 ∧ iv = .int .i64 i ∧ Hid (anyL L k i = false) ∧ wx = wr) (fun v _ => 64 - (intOf v).toNat)
      case atStart => exact ⟨0, by omega, rfl, rfl, rfl⟩
      case round =>
        obtain ⟨i, hi, rfl, HN, rfl⟩ := hrel
        rename World => wr
        by_cases hil : i < 64
        · have hd2 : decide ((i : Int) < 64) = true := decide_eq_true (by omega)
          obtain ⟨v, hv⟩ := HAT.out i hil
          have hix := index64 hv hil
          have HH : Hid (hitL L k i = (decide (0 < v) && (i &&& k == 0))) := Lib.hid (by unfold hitL; rw [hv]; rfl)
          clear hv
          have HAS := Lib.hid (anyL_succ L k i)
          have HOF := Lib.hid (anyL_of (L := L) (set := k) (k := i) (m := 64))
          obtain ⟨hb, hhb⟩ : ∃ z, hitL L k i = z := ⟨_, rfl⟩
          rw [hhb] at HH HAS HOF
          clear hhb
          by_cases hv0 : 0 < v
          · have hvd : decide ((0 : Int) < (v : Int)) = true := decide_eq_true (by omega)
            have hvd2 : decide (0 < v) = true := decide_eq_true hv0
            have hvd3 : decide ((v : Int) > 0) = true := decide_eq_true (by omega)
            have ha := and_i64 i k (by omega) (by omega)
            rw [hvd2, Bool.true_and] at HH
            obtain ⟨y, hy⟩ : ∃ y, i &&& k = y := ⟨_, rfl⟩
            rw [hy] at ha HH
            clear hy
            by_cases h0 : y = 0
            · subst h0
              have HYS : Hid (conTo p (k + 1) = sm) := Lib.hid (HY.out (by rw [HPK.out]; exact HOF.out (by rw [HH.out]; rfl) hil))
              clear HY HLE HMO HOF HAS HH
              go_wp2
              go_roundw
              case rel => exact ⟨k + 1, by omega, by go_num, by rw [HYS.out], by simp⟩
              case measure => simp [intOf]; omega
            · have hyb : (((y : Nat) : Int) == 0) = false := by simpa using h0
              have HNN : Hid (anyL L k (i + 1) = false) := Lib.hid (by rw [HAS.out, HN.out, HH.out]; simpa using h0)
              clear HOF HAS HH
              go_wp2
              go_roundw
              case rel => exact ⟨i + 1, by omega, by go_num, HNN.out, by simp⟩
              case measure => simp [intOf]; omega
          · have hvd : decide ((0 : Int) < (v : Int)) = false := decide_eq_false (by omega)
            have hvd2 : decide (0 < v) = false := decide_eq_false hv0
            have hvd3 : decide ((v : Int) > 0) = false := decide_eq_false (by omega)
            have HNN : Hid (anyL L k (i + 1) = false) := Lib.hid (by rw [HAS.out, HN.out, HH.out, hvd2]; rfl)
            clear HOF HAS HH
            go_wp2
            go_roundw
            case rel => exact ⟨i + 1, by omega, by go_num, HNN.out, by simp⟩
            case measure => simp [intOf]; omega
        · have hd2 : decide ((i : Int) < 64) = false := decide_eq_false (by omega)
          have HNP : Hid (p k = false) := Lib.hid (by
            have h := HN.out
            rw [show i = 64 by omega] at h
            rw [HPK.out]; exact h)
          have S1 := Lib.hid (fun w0 => HC.out k (by omega) w0)
          have S2 := Lib.hid (fun w0 => HC.out sm (by omega) w0)
          have HL1 := Lib.hid (HLE.out HNP.out)
          have HM1 := Lib.hid (HMO.out HNP.out)
          obtain ⟨pk, hpk⟩ : ∃ z, popD k = z := ⟨_, rfl⟩
          obtain ⟨py, hpy⟩ : ∃ z, popD sm = z := ⟨_, rfl⟩
          rw [hpk] at S1 HL1 HM1
          rw [hpy] at S2 HL1 HM1
          clear hpk hpy HY HLE HMO
          go_wp2_with fail
          refine (S1.out _).mono ?_
          rintro e w3 ⟨rfl, rfl⟩
          go_wp2_with fail
          refine (S2.out _).mono ?_
          rintro e w4 ⟨rfl, rfl⟩
          by_cases hq : pk < py
          · have hdq : decide ((pk : Int) < (py : Int)) = true := decide_eq_true (by omega)
            have HQ := Lib.hid (HL1.out hq)
            clear HL1 HM1
            go_wp2
            go_roundw
            case rel => exact ⟨k + 1, by omega, by go_num, by rw [HQ.out], by simp⟩
            case measure => simp [intOf]; omega
          · have hdq : decide ((pk : Int) < (py : Int)) = false := decide_eq_false (by omega)
            have HQ := Lib.hid (HM1.out hq)
            clear HL1 HM1
            go_wp2
            go_roundw
            case rel => exact ⟨k + 1, by omega, by go_num, by rw [HQ.out], by simp⟩
            case measure => simp [intOf]; omega
    · have hd : decide ((k : Int) < 64) = false := decide_eq_false (by omega)
      obtain rfl : k = 64 := by omega
      go_wp2
      rw [Exit.noGoto_ret]
      go_ret
      exact ⟨rfl, HG.out⟩

end Go.Proofs.Yticeekkfdkfcgaa

namespace Go.Proofs.Yticeekkfdkfcgaa
open Go.RowKit

theorem brokenL_lt {P : List PersonR} (j : JobD) (lw : LawD) (n fr dst team : Nat) (l : List (Mem P)) : brokenL j lw n fr dst team l < 64 := by
  unfold brokenL
  have h := ruleO_lt j l
  refine Nat.or_lt_two_pow (n := 6) (Nat.or_lt_two_pow (n := 6) (Nat.or_lt_two_pow (n := 6) (by omega) ?_) ?_) ?_ <;> split <;> omega
theorem brokenT_lt (c : CrewR) (j : JobD) (t : Nat) : brokenT c j t < 64 := brokenL_lt ..
/-- is a set of rules kept by some team? -/
def keptP (c : CrewR) (f : Nat → Nat) (r : Nat) : Bool := keptTo f r (2 ^ c.people.length)
/-- the error and the result of Why -/
def whE (c : CrewR) (j : JobD) (f : Nat → Nat) : Int := if crewErr c.d j ≠ 0 then crewErr c.d j else if whyTo (keptP c f) 64 = none then 3 else 0
def whY (c : CrewR) (j : JobD) (f : Nat → Nat) : Nat := if crewErr c.d j ≠ 0 then 0 else (whyTo (keptP c f) 64).getD 0
theorem why_none {p : Nat → Bool} (h : ∀ r, p r = true) : ∀ k, whyTo p k = none
  | 0 => rfl
  | k + 1 => by rw [whyTo_yes (h k)]; exact why_none h k
theorem any_zero {L : List Nat} (h : 0 < (L[0]?).getD 0) (r : Nat) : anyL L r 64 = true := anyL_of (k := 0) (by unfold hitL; rw [decide_eq_true h, Nat.zero_and]; rfl) (by omega)
theorem any_63 {L : List Nat} (h : ¬ 0 < (L[0]?).getD 0) : anyL L 63 64 = false := by
  unfold anyL
  rw [List.any_eq_false]
  intro b hb hh
  have hb := List.mem_range.1 hb
  unfold hitL at hh
  rw [Bool.and_eq_true, decide_eq_true_eq] at hh
  have e : b &&& 63 = b := by
    have := Nat.and_two_pow_sub_one_eq_mod b 6
    rw [show 2 ^ 6 - 1 = 63 by rfl, show 2 ^ 6 = 64 by rfl] at this
    rw [this]
    exact Nat.mod_eq_of_lt hb
  rw [e] at hh
  have h0 : b = 0 := by simpa using hh.2
  subst h0
  exact h hh.1

set_option maxRecDepth 100000 in
set_option maxHeartbeats 16000000 in
/-- the program's Why -/
theorem whyApi_any (c : CrewR) (j : JobD) (n : Nat) (w : World) (hA : CrewAt w n c) (hn : n ≤ w.heap.size) (hs : Short c) :
    Calls Try.prog 24 #[crewV c, jobV j] w fun e w' => e = .returned (.tuple #[.int .i64 (whY c j (brokenT c j) : Nat), .int .i64 (whE c j (brokenT c j))]) ∧ Below w.heap.size w w' := by
  have HAT := Lib.hid (fun (w0 : World) (hw : Grow w w0) => ((hA.more hn).below hw).more hw.size)
  have HR := Lib.hid (fun (w0 : World) (hw : Grow w w0) => read_any c j w0.heap.size w0 (HAT.out w0 hw) (Nat.le_refl _) hs)
  have HE : Hid (whE c j (brokenT c j) = if crewErr c.d j ≠ 0 then crewErr c.d j else if whyTo (keptP c (brokenT c j)) 64 = none then 3 else 0) := Lib.hid rfl
  have HY : Hid (whY c j (brokenT c j) = if crewErr c.d j ≠ 0 then 0 else (whyTo (keptP c (brokenT c j)) 64).getD 0) := Lib.hid rfl
  have HKP : Hid (∀ r, anyL (cntN (fun x : Fin 1024 => brokenT c j x.val) (tmTo (2 ^ c.people.length))) r 64 = keptP c (brokenT c j) r) := Lib.hid (fun r => any_kept (fun x => brokenT_lt c j x.val))
  obtain ⟨ye, hye⟩ : ∃ z, whE c j (brokenT c j) = z := ⟨_, rfl⟩
  obtain ⟨yy, hyy⟩ : ∃ z, whY c j (brokenT c j) = z := ⟨_, rfl⟩
  obtain ⟨er, her⟩ : ∃ z, crewErr c.d j = z := ⟨_, rfl⟩
  rw [hye, her] at HE
  rw [hyy, her] at HY
  rw [her] at HR
  rw [hye, hyy]
  clear hA hn her hye hyy
  go_enter Try.func24, Try.ntmps24
  go_upto_region 1 with fail
  obtain ⟨W, hW, hg, hf, hs1, hsz⟩ := two_blocks w 25 27 (cellsC c) (cellsJ j)
  rw [hW]
  clear hW
  have hcc := hf.cell
  have hjc := hs1.cell
  have HG := Lib.hid hg
  clear hf hs1 hg
  go_wp2_with fail
  refine (HR.out W HG.out).mono ?_
  rintro e w1 ⟨v, rfl, hv, hb1⟩
  have HG1 : Hid (Grow W w1) := hb1
  clear hb1 hcc hjc HR
  by_cases h0 : er = 0
  · subst h0
    obtain ⟨hk1, hk2, sb, rfl, hsb, hbk⟩ := hv.2 rfl
    have HSB := Lib.hid hbk
    have hl8 := (good_ok hk1 hk2).len
    have HBC : Hid (∀ (x : Fin 1024) (w0 : World), Grow w1 w0 → Calls Try.prog 42 #[taskV c j (lawOf c.d j) (some ⟨sb, 0, none⟩) c.people.length, .int .i64 (x.val : Nat)] w0 fun e w' => e = .returned (.int .i64 (brokenT c j x.val : Nat)) ∧ Below w0.heap.size w0 w') := Lib.hid fun x w0 hw => task_broken hk1 hk2 sb x.val x.isLt w0 (HAT.out w0 (HG.out.trans (HG1.out.trans hw))).1 (hw.block hbk)
    have HCN : Hid (∀ w0, Grow w1 w0 → Calls Try.prog 49 #[taskV c j (lawOf c.d j) (some ⟨sb, 0, none⟩) c.people.length] w0 fun e w' => e = .returned (.agg (natCells (cntN (fun x : Fin 1024 => brokenT c j x.val) (tmTo (2 ^ c.people.length))))) ∧ Below w0.heap.size w0 w') := Lib.hid fun w0 hw => counts_any c j (lawOf c.d j) (some ⟨sb, 0, none⟩) c.people.length (fun x => brokenT c j x.val) w0 hl8 (fun x => brokenT_lt c j x.val) (fun x w1 hw1 => HBC.out x w1 (hw.trans hw1))
    have HE1 : Hid (ye = if whyTo (keptP c (brokenT c j)) 64 = none then 3 else 0) := HE
    have HY1 : Hid (yy = (whyTo (keptP c (brokenT c j)) 64).getD 0) := HY
    obtain ⟨law, hlaw⟩ : ∃ z, lawOf c.d j = z := ⟨_, rfl⟩
    obtain ⟨L, hL⟩ : ∃ z, cntN (fun x : Fin 1024 => brokenT c j x.val) (tmTo (2 ^ c.people.length)) = z := ⟨_, rfl⟩
    obtain ⟨p, hp⟩ : ∃ z, keptP c (brokenT c j) = z := ⟨_, rfl⟩
    have hLl : L.length = 64 := by rw [← hL]; exact cntN_len _ _
    rw [hlaw, hL] at HCN
    rw [hL, hp] at HKP
    rw [hp] at HE1 HY1
    rw [hlaw]
    have HPF : Hid ((fun s => anyL L s 64) = p) := Lib.hid (funext HKP.out)
    have HCO := Lib.hid (fun w0 => contra_any L w0 hLl)
    have HP1 : Hid (0 < (L[0]?).getD 0 → ye = 3 ∧ yy = 0) := Lib.hid (fun h => by
      have hn := why_none (p := p) (fun r => by rw [← HKP.out]; exact any_zero h r) 64
      rw [HE1.out, HY1.out, hn]
      exact ⟨rfl, rfl⟩)
    have HP2 : Hid (¬ 0 < (L[0]?).getD 0 → ye = 0 ∧ yy = conTo p 64) := Lib.hid (fun h => by
      have hn := con_all (p := p) (by rw [← HKP.out]; exact any_63 h)
      rw [HE1.out, HY1.out, hn]
      exact ⟨rfl, rfl⟩)
    rw [HPF.out] at HCO
    have HSZ : Hid ((Try.prog.info? 72).map (·.size) = some (natCells L).size) := Lib.hid (by rw [natCells_size, hLl]; exact info64)
    have HS2 : Hid ((z64).size = (natCells L).size) := Lib.hid (by rw [natCells_size, hLl]; rfl)
    obtain ⟨v0, hv0⟩ : ∃ v, L[0]? = some v := ⟨L[0]'(by omega), List.getElem?_eq_getElem (by omega)⟩
    have HV0 := Lib.hid hv0
    rw [hv0, Option.getD_some] at HP1 HP2
    clear hv hlaw hL hp hLl hsb hbk hk1 hk2 HAT HE HY HE1 HY1 HBC HKP HPF hv0
    go_upto_region 4 with fail
    obtain ⟨w2, hw2, hg2, hf2, hz2⟩ := one_block w1 63 (cellsT c j law (some ⟨sb, 0, none⟩) c.people.length)
    have HG2 := Lib.hid hg2
    have htc := hf2.cell
    rw [hw2]
    clear hw2 hg2 hf2
    go_wp2_with fail
    refine (HCN.out w2 HG2.out).mono ?_
    rintro e w3 ⟨rfl, hb3⟩
    have HG3 : Hid (Grow w2 w3) := hb3
    have HNB := Lib.hid (BlockIs.new w3 72 z64)
    clear htc hb3 HCN
    go_upto_region 5 with (refine wpList_store_row rfl 72 _ _ rfl w3.heap.size (natCells L) rfl rfl 72 z64 HNB.out HSZ.out HS2.out (natCells_one _) ?_)
    obtain ⟨w4, hw4⟩ : ∃ z, (w3.alloc (.cells z64 72)).setRow w3.heap.size (natCells L) = z := ⟨_, rfl⟩
    have HB4 : Hid (BlockIs w4 w3.heap.size 72 (natCells L)) := Lib.hid (by rw [← hw4]; exact set_row HNB.out _)
    have HG4 : Hid (Grow w w4) := Lib.hid (by
      rw [← hw4]
      refine HG.out.trans (HG1.out.trans (HG2.out.trans (HG3.out.trans ?_)))
      exact (Grow.alloc w3 _).trans' (row_below _ _ (Nat.le_refl _)))
    have c0 : w4.cell? ⟨w3.heap.size, 0, none⟩ = some (.int .i64 (v0 : Nat)) := by rw [HB4.out.cell]; exact natCells_at HV0.out
    rw [hw4]
    clear hw4 HNB
    by_cases hv : 0 < v0
    · have hvd : decide ((0 : Int) < (v0 : Int)) = true := decide_eq_true (by omega)
      have hvd2 : decide (0 < v0) = true := decide_eq_true hv
      have hvd3 : decide ((v0 : Int) > 0) = true := decide_eq_true (by omega)
      obtain ⟨rfl, rfl⟩ := HP1.out hv
      clear HP1 HP2
      go_wp2
      all_goals (refine bodyPost_ret (results_pair45 Try.results24 _ _ _ _ rfl rfl) rfl ?_; exact ⟨rfl, HG4.out⟩)
    · have hvd : decide ((0 : Int) < (v0 : Int)) = false := decide_eq_false (by omega)
      have hvd2 : decide (0 < v0) = false := decide_eq_false hv
      have hvd3 : decide ((v0 : Int) > 0) = false := decide_eq_false (by omega)
      obtain ⟨rfl, rfl⟩ := HP2.out hv
      clear HP1 HP2
      go_upto_region 7 with fail
      clear c0
      go_wp2_with (refine wpList_load_row rfl 72 _ rfl w3.heap.size rfl 72 (natCells L) (0, 0) _ HB4.out Try.underlying72 rfl HSZ.out ?_)
      refine (HCO.out w4).mono ?_
      rintro e w5 ⟨rfl, hb5⟩
      have HG5 : Hid (Grow w4 w5) := hb5
      clear hb5
      go_wp2
      all_goals (refine bodyPost_ret (results_pair45 Try.results24 _ _ _ _ rfl rfl) rfl ?_; exact ⟨rfl, HG4.out.trans HG5.out⟩)
  · obtain rfl := hv.1 h0
    have hne : (er != 0) = true := by simpa using h0
    obtain rfl : ye = er := by rw [HE.out, if_pos h0]
    obtain rfl : yy = 0 := by rw [HY.out, if_pos h0]
    clear hv HE HY
    go_upto_region 2 with fail
    obtain ⟨w2, hw2, hg2, hf2, hz2⟩ := one_block w1 63 zeroT
    have HG2 : Hid (Grow w w2) := Lib.hid (HG.out.trans (HG1.out.trans hg2))
    rw [hw2]
    clear hw2 hg2 hf2 hz2
    go_wp2
    all_goals (refine bodyPost_ret (results_pair45 Try.results24 _ _ _ _ rfl rfl) rfl ?_; exact ⟨rfl, HG2.out⟩)

theorem rWhy_flat (c : CrewR) (j : JobD) (n : Nat) (w : World) (hA : CrewAt w n c) (hn : n ≤ w.heap.size) (hs : Short c) :
    Calls Try.prog 25 #[crewV c, jobV j] w fun e w' => e = .returned (.tuple #[.int .i64 (whY c j (brokenT c j) : Nat), .int .i64 (whE c j (brokenT c j))]) ∧ Below w.heap.size w w' := by
  refine (rWhy_any c j (brokenT c j) n w hA hn hs (fun h => rb_any hA hn h) (fun h => (good_ok (crewErr_ok' h).1 (crewErr_ok' h).2).len) (fun t _ => brokenT_lt c j t)).mono ?_
  rintro e w' ⟨y, er, rfl, h1, h2, hb⟩
  refine ⟨?_, hb⟩
  have : y = whY c j (brokenT c j) ∧ er = whE c j (brokenT c j) := by
    unfold whY whE
    by_cases h0 : crewErr c.d j = 0
    · rw [if_neg (by simp [h0]), if_neg (by simp [h0])]
      obtain ⟨q1, q2⟩ := h2 h0
      have e1 : (fun r => keptTo (brokenT c j) r (2 ^ c.people.length)) = keptP c (brokenT c j) := rfl
      rw [e1] at q1 q2
      cases hw : whyTo (keptP c (brokenT c j)) 64 with
      | none => exact q1 hw
      | some b => exact q2 b hw
    · rw [if_pos h0, if_pos h0]
      exact h1 h0
  rw [this.1, this.2]

end Go.Proofs.Yticeekkfdkfcgaa

