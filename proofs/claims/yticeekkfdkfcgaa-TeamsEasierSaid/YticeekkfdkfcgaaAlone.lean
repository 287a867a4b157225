/- Alone: the rules for one member: the map of functions. -/
import Derived.Test.YticeekkfdkfcgaaJob
namespace Go.Proofs.Yticeekkfdkfcgaa
open Go.RowKit
open Go.ChangeMaps (setBlock)

def entN (jb : Nat) (i : Int) (f n : Nat) : MapEntry := { key := .int .i64 i, val := .func (.func f) #[] #[.pointer (some ⟨jb, 0, none⟩)], born := n }
/-- the three functions, by their rules; jb: the block in which the job lies -/
def entF (jb : Nat) : Array MapEntry := #[entN jb 0 81 0, entN jb 1 83 1, entN jb 2 84 2]

theorem run_insert {w : World} {m : Nat} {es : Array MapEntry} {clock : Nat} (jb : Nat) (i : Int) (f : Nat) (h : w.heap[m]? = some (.map es clock)) (hf : Instr.findNow (.int .i64) (.int .i64 i) es.toList 0 = some none) :
    ∃ w', (Instr.mapUpdate 90 (.map (some m)) (.int .i64 i) (.func (.func f) #[] #[.pointer (some ⟨jb, 0, none⟩)])).run Try.prog w = .ok () w' ∧ w'.heap[m]? = some (.map (es.push (entN jb i f clock)) (clock + 1)) ∧
      (∀ b, b ≠ m → w'.heap[b]? = w.heap[b]?) ∧ w'.heap.size = w.heap.size ∧ w'.os = w.os ∧ w'.tape = w.tape ∧ w'.output = w.output := by
  have hc : ∀ e, (Instr.checkKey e 10000 3 (.int .i64 i)).run Try.prog w = .ok () w := fun e => MapKept.run_checkKey Try.underlying3 (by simp [MapKept.IsKey]) e 9999
  have hs := MapKept.run_setObj_map (P := Try.prog) (.map (es.push { key := .int .i64 i, val := .func (.func f) #[] #[.pointer (some ⟨jb, 0, none⟩)], born := clock }) (clock + 1)) h
  have hk := MapKept.run_findKey (P := Try.prog) (w := w) Try.underlying3 hf
  refine ⟨setBlock w m (.map (es.push (entN jb i f clock)) (clock + 1)), ?_, (MapKept.heap_set h).1, (MapKept.heap_set h).2, by simp [setBlock], rfl, rfl, rfl⟩
  simp [Instr.mapUpdate, run_underlying Try.underlying90, Result.andThen, MapKept.run_getObj_map h, hc, hk, hs]
  rfl

set_option maxRecDepth 100000 in
set_option maxHeartbeats 4000000 in
theorem alone_any (j : JobD) (w : World) :
    Calls Try.prog 73 #[jobV j] w fun e w' => ∃ m jb, e = .returned (.map (some m)) ∧ w'.heap[m]? = some (.map (entF jb) 3) ∧ BlockIs w' jb 27 (cellsJ j) ∧ Below w.heap.size w w' := by
  have hmm := @run_makeMap Try.prog
  go_enter Try.func73, Try.ntmps73
  go_upto_region 1 with fail
  obtain ⟨W, hW, hg, hf, hsz⟩ := one_block w 27 (cellsJ j)
  rw [hW]
  clear hW
  have h0 : (W.alloc (.map #[] 0)).heap[W.heap.size]? = some (.map #[] 0) := heap_alloc_new W _
  obtain ⟨W1, i1, h1, n1, z1, a1, b1, c1⟩ := run_insert w.heap.size 0 81 h0 rfl
  obtain ⟨W2, i2, h2, n2, z2, a2, b2, c2⟩ := run_insert w.heap.size 1 83 h1 rfl
  obtain ⟨W3, i3, h3, n3, z3, a3, b3, c3⟩ := run_insert w.heap.size 2 84 h2 rfl
  have hg0 : Grow w (W.alloc (.map #[] 0)) := hg.trans (Grow.alloc _ _)
  have hne : ∀ b, b ≠ W.heap.size → W3.heap[b]? = (W.alloc (.map #[] 0)).heap[b]? := fun b hb => by rw [n3 b hb, n2 b hb, n1 b hb]
  have HB : Hid (Below w.heap.size w W3) := Lib.hid ⟨(a3.trans (a2.trans a1)).trans hg0.os, (b3.trans (b2.trans b1)).trans hg0.tape, (c3.trans (c2.trans c1)).trans hg0.output, by have := hg0.size; omega, fun b hb => (hne b (by omega)).trans (Below.block hg0 b hb)⟩
  have HJ : Hid (BlockIs W3 w.heap.size 27 (cellsJ j)) := Lib.hid ((hne _ (by omega)).trans (hf.old _))
  have H3 := Lib.hid h3
  clear hg hf h0 h1 h2 h3 hne hg0 n1 n2 n3 z1 z2 z3 a1 a2 a3 b1 b2 b3 c1 c2 c3
  go_wp2
  go_ret
  exact ⟨_, _, rfl, H3.out, HJ.out, HB.out⟩

/-- does a person break the rule r for one member? -/
def brkD (j : JobD) (p : PersonD) (r : Nat) : Bool := if r = 0 then tiedD p j.client else if r = 1 then !hasN p.fields.toNat j.field.toNat else !hasN p.clears.toNat j.kind.toNat
def ruleF (r : Nat) : Nat := if r = 0 then 81 else if r = 1 then 83 else 84
/-- a person of whom the rules can be asked -/
def PersonOK (p : PersonD) : Prop := p.ties.length ≤ 1000000 ∧ 0 ≤ p.fields ∧ p.fields ≤ 255 ∧ 0 ≤ p.clears ∧ p.clears ≤ 255
def JobOK (j : JobD) : Prop := 0 ≤ j.field ∧ j.field ≤ 7 ∧ 0 ≤ j.kind ∧ j.kind ≤ 3
theorem ruleF_enter (r : Nat) : ∀ args w, (callFunc (ruleF r) args).run Try.prog w = .ok (.enter (ruleF r) args) w := by
  intro args w
  unfold ruleF
  split
  · kernel_rfl
  · split <;> kernel_rfl

set_option maxRecDepth 100000 in
set_option maxHeartbeats 2000000 in
theorem rule0_any (j : JobD) (jb : Nat) (x : PersonR) (w : World) (hj : BlockIs w jb 27 (cellsJ j)) (hx : PersonAt w w.heap.size x) (ho : PersonOK x.d) :
    Calls Try.prog 81 #[personV x, .pointer (some ⟨jb, 0, none⟩)] w fun e w' => e = .returned (.bool (!tiedD x.d j.client)) ∧ Below w.heap.size w w' := by
  have HC := Lib.hid (fun (w0 : World) (hw : Grow w w0) => containsI_any x.ta x.tc w.heap.size x.d.ties j.client w0 (hx.2.below hw) ho.1)
  have HO : Hid (tiedD x.d j.client = x.d.ties.any fun y => decide (y = j.client)) := rfl
  rw [← HO.out] at HC
  generalize tiedD x.d j.client = t at HC ⊢
  have HJ := Lib.hid hj
  clear hj hx ho HO
  go_enter Try.func81, Try.ntmps81
  go_upto_region 1 with fail
  obtain ⟨W, hW, hg, hf, hsz⟩ := one_block w 52 (cellsP x)
  rw [hW]
  clear hW
  have hcc := hf.cell
  have hjc := (hg.block HJ.out).cell
  have HG := Lib.hid hg
  clear hf hg
  go_wp2_with fail
  refine (HC.out _ HG.out).mono ?_
  rintro e w' ⟨rfl, rfl⟩
  go_wp2
  go_ret
  exact ⟨rfl, HG.out⟩
set_option maxRecDepth 100000 in
set_option maxHeartbeats 2000000 in
theorem rule1_any (j : JobD) (jb : Nat) (x : PersonR) (w : World) (hj : BlockIs w jb 27 (cellsJ j)) (ho : PersonOK x.d) (hk : JobOK j) :
    Calls Try.prog 83 #[personV x, .pointer (some ⟨jb, 0, none⟩)] w fun e w' => e = .returned (.bool (hasN x.d.fields.toNat j.field.toNat)) ∧ Below w.heap.size w w' := by
  obtain ⟨fN, hfN⟩ := Int.eq_ofNat_of_zero_le ho.2.1
  obtain ⟨eN, heN⟩ := Int.eq_ofNat_of_zero_le hk.1
  have HC := Lib.hid (fun (w0 : World) => has_any fN eN w0 (by have := ho.2.2.1; omega) (by have := hk.2.1; omega))
  have e1 : x.d.fields.toNat = fN := by rw [hfN]; rfl
  have e2 : j.field.toNat = eN := by rw [heN]; rfl
  rw [e1, e2]
  generalize hasN fN eN = t at HC ⊢
  have HJ := Lib.hid hj
  clear hj ho hk e1 e2
  go_enter Try.func83, Try.ntmps83
  go_upto_region 1 with fail
  obtain ⟨W, hW, hg, hf, hsz⟩ := one_block w 52 (cellsP x)
  rw [hW]
  clear hW
  have h1 : W.cell? ⟨w.heap.size, 1, none⟩ = some (.int .i64 (fN : Nat)) := by rw [hf.cell 1, ← hfN]; rfl
  have h2 : W.cell? ⟨jb, 3, none⟩ = some (.int .i64 (eN : Nat)) := by rw [(hg.block HJ.out).cell 3, ← heN]; rfl
  have HG := Lib.hid hg
  clear hf hg
  go_wp2_with fail
  refine (HC.out _).mono ?_
  rintro e w' ⟨rfl, rfl⟩
  go_wp2
  go_ret
  exact ⟨rfl, HG.out⟩
set_option maxRecDepth 100000 in
set_option maxHeartbeats 2000000 in
theorem rule2_any (j : JobD) (jb : Nat) (x : PersonR) (w : World) (hj : BlockIs w jb 27 (cellsJ j)) (ho : PersonOK x.d) (hk : JobOK j) :
    Calls Try.prog 84 #[personV x, .pointer (some ⟨jb, 0, none⟩)] w fun e w' => e = .returned (.bool (hasN x.d.clears.toNat j.kind.toNat)) ∧ Below w.heap.size w w' := by
  obtain ⟨fN, hfN⟩ := Int.eq_ofNat_of_zero_le ho.2.2.2.1
  obtain ⟨eN, heN⟩ := Int.eq_ofNat_of_zero_le hk.2.2.1
  have HC := Lib.hid (fun (w0 : World) => has_any fN eN w0 (by have := ho.2.2.2.2; omega) (by have := hk.2.2.2; omega))
  have e1 : x.d.clears.toNat = fN := by rw [hfN]; rfl
  have e2 : j.kind.toNat = eN := by rw [heN]; rfl
  rw [e1, e2]
  generalize hasN fN eN = t at HC ⊢
  have HJ := Lib.hid hj
  clear hj ho hk e1 e2
  go_enter Try.func84, Try.ntmps84
  go_upto_region 1 with fail
  obtain ⟨W, hW, hg, hf, hsz⟩ := one_block w 52 (cellsP x)
  rw [hW]
  clear hW
  have h1 : W.cell? ⟨w.heap.size, 2, none⟩ = some (.int .i64 (fN : Nat)) := by rw [hf.cell 2, ← hfN]; rfl
  have h2 : W.cell? ⟨jb, 4, none⟩ = some (.int .i64 (eN : Nat)) := by rw [(hg.block HJ.out).cell 4, ← heN]; rfl
  have HG := Lib.hid hg
  clear hf hg
  go_wp2_with fail
  refine (HC.out _).mono ?_
  rintro e w' ⟨rfl, rfl⟩
  go_wp2
  go_ret
  exact ⟨rfl, HG.out⟩
theorem rule_any (j : JobD) (jb r : Nat) (x : PersonR) (w : World) (hj : BlockIs w jb 27 (cellsJ j)) (hx : PersonAt w w.heap.size x) (ho : PersonOK x.d) (hk : JobOK j) :
    Calls Try.prog (ruleF r) #[personV x, .pointer (some ⟨jb, 0, none⟩)] w fun e w' => e = .returned (.bool (!brkD j x.d r)) ∧ Below w.heap.size w w' := by
  unfold ruleF brkD
  split
  · exact rule0_any j jb x w hj hx ho
  · split
    · rw [Bool.not_not]; exact rule1_any j jb x w hj ho hk
    · rw [Bool.not_not]; exact rule2_any j jb x w hj ho hk

end Go.Proofs.Yticeekkfdkfcgaa
