/- Queue: a queue of rows of integers in memory: what an append behind it does; slices.Clone at integers. -/
import Derived.Test.YticeekkfdkfcgaaBreaches
import Derived.Deep.AppendLies
namespace Go.Proofs.Yticeekkfdkfcgaa
open Go.RowKit

structure RowR where
  A : Option Addr
  c : Nat
  xs : List Int
abbrev rowV (r : RowR) : Value := .slice r.A r.xs.length r.c
/-- a row of integers in a block of its own -/
def IntRow (w : World) (lo : Nat) (r : RowR) : Prop := ∃ b cs, r.A = some ⟨b, 0, none⟩ ∧ lo ≤ b ∧ BlockIs w b 3 cs ∧ ∀ (i : Nat) (x : Int), r.xs[i]? = some x → cs[i]? = some (Value.int .i64 x)
theorem IntRow.ints {w : World} {lo : Nat} {r : RowR} (h : IntRow w lo r) : Ints w w.heap.size r.A r.xs := by
  obtain ⟨b, cs, e, h1, h2, h3⟩ := h
  exact .inr ⟨b, 0, e, h2.lt, fun i x hx => by rw [Nat.zero_add, h2.cell]; exact h3 i x hx⟩
theorem IntRow.mono {w : World} {lo lo' : Nat} {r : RowR} (h : IntRow w lo r) (hl : lo' ≤ lo) : IntRow w lo' r := by
  obtain ⟨b, cs, e, h1, h2, h3⟩ := h
  exact ⟨b, cs, e, by omega, h2, h3⟩
/-- what keeps all blocks but those of rows of rows -/
def KeepQ (w w' : World) : Prop := ∀ (b : Nat) (t : TypeId) (cs : Array Value), t ≠ 33 → BlockIs w b t cs → BlockIs w' b t cs
theorem KeepQ.of_grow {w w' : World} (h : Grow w w') : KeepQ w w' := fun _ _ _ _ hb => h.block hb
theorem KeepQ.refl (w : World) : KeepQ w w := fun _ _ _ _ h => h
theorem KeepQ.trans {a b c : World} (h : KeepQ a b) (k : KeepQ b c) : KeepQ a c := fun _ _ _ ht hb => k _ _ _ ht (h _ _ _ ht hb)
theorem IntRow.keep {w w' : World} {lo : Nat} {r : RowR} (h : IntRow w lo r) (k : KeepQ w w') : IntRow w' lo r := by
  obtain ⟨b, cs, e, h1, h2, h3⟩ := h
  exact ⟨b, cs, e, h1, k _ _ _ (by decide) h2, h3⟩
/-- the rows R lie from the place o on in the block b, with room for c -/
structure QueueAt (w : World) (lo b o c : Nat) (R : List RowR) : Prop where
  block : ∃ cs, BlockIs w b 33 cs ∧ o + c ≤ cs.size ∧ ∀ (i : Nat) (r : RowR), R[i]? = some r → cs[o + i]? = some (rowV r)
  base : lo ≤ b
  room : R.length ≤ c
  rows : ∀ r ∈ R, IntRow w lo r
theorem QueueAt.grow {w w' : World} {lo b o c : Nat} {R : List RowR} (h : QueueAt w lo b o c R) (g : Grow w w') : QueueAt w' lo b o c R := by
  obtain ⟨⟨cs, h1, h2, h3⟩, h4, h5, h6⟩ := h
  exact ⟨⟨cs, g.block h1, h2, h3⟩, h4, h5, fun r hr => (h6 r hr).keep (KeepQ.of_grow g)⟩
theorem QueueAt.cell {w : World} {lo b o c : Nat} {R : List RowR} (h : QueueAt w lo b o c R) {i : Nat} {r : RowR} (hr : R[i]? = some r) : w.cell? ⟨b, o + i, none⟩ = some (rowV r) := by
  obtain ⟨cs, h1, _, h3⟩ := h.block
  rw [h1.cell]
  exact h3 i r hr
theorem QueueAt.pop {w : World} {lo b o c : Nat} {r : RowR} {R : List RowR} (h : QueueAt w lo b o c (r :: R)) : QueueAt w lo b (o + 1) (c - 1) R := by
  obtain ⟨⟨cs, h1, h2, h3⟩, h4, h5, h6⟩ := h
  rw [List.length_cons] at h5
  refine ⟨⟨cs, h1, by omega, fun i x hx => ?_⟩, h4, by omega, fun x hx => h6 x (List.mem_cons_of_mem _ hx)⟩
  have := h3 (i + 1) x (by simpa using hx)
  rwa [show o + 1 + i = o + (i + 1) by omega]
theorem Try.infoInts : (Try.prog.info? 33).map (fun i => (i.zero, i.size, i.bytes)) = some (some (Value.slice none 0 0), 1, 24) := by kernel_rfl

set_option maxRecDepth 100000 in
/-- an append of one row behind the queue -/
theorem append_queue {w : World} {lo b o c : Nat} {R : List RowR} (h : QueueAt w lo b o c R) (hlo : lo ≤ w.heap.size) {r : RowR} (hr : IntRow w lo r) {ad : Addr} {m : Nat} (hn : w.cell? ad = some (rowV r)) (hs : R.length ≤ 1000) :
    ∃ b' o' c' w', (Builtin.append_ #[81, 81] 81 #[.slice (some ⟨b, o, none⟩) R.length c, .slice (some ad) 1 m]).run Try.prog w = .ok (.slice (some ⟨b', o', none⟩) (R.length + 1) c') w' ∧ QueueAt w' lo b' o' c' (R ++ [r]) ∧ KeepQ w w' ∧ Below lo w w' := by
  obtain ⟨i, hi, hz, hsz, hby⟩ := info_parts Try.infoInts
  obtain ⟨⟨cs, h1, h2, h3⟩, h4, h5, h6⟩ := h
  have hnews : ∀ (j : Nat) u, [rowV r][j]? = some u → w.cell? (ad.add j) = some u := fun j u hu => by
    have hj : j = 0 := by
      have := (List.getElem?_eq_some_iff.1 hu).1
      simpa using this
    subst hj
    have : rowV r = u := by simpa using hu
    rw [← this]
    simpa [Addr.add] using hn
  by_cases hroom : R.length + 1 ≤ c
  · have hf := run_firstCells_some (P := Try.prog) w i.size 1 ad 1 m [rowV r] (by rw [hsz]; rfl) hnews
    rw [hsz] at hf
    have hst := run_storeCells_at (P := Try.prog) b (o + R.length) 33 [rowV r] 0 cs w h1 (by simp; omega) (by simp [Value.oneCell'])
    simp only [Nat.add_zero, List.length_singleton] at hst
    obtain ⟨ns, hns⟩ : ∃ z, (cs.toList.take (o + R.length) ++ [rowV r] ++ cs.toList.drop (o + R.length + 1)).toArray = z := ⟨_, rfl⟩
    rw [hns] at hst
    have hnz : o + c ≤ ns.size := by rw [← hns]; simp; omega
    have hold : ∀ k, k < o + R.length → ns[k]? = cs[k]? := fun k hk => by
      rw [← hns, List.getElem?_toArray, List.append_assoc, List.getElem?_append_left (by simp; omega), List.getElem?_take_of_lt hk, Array.getElem?_toList]
    have hnew : ns[o + R.length]? = some (rowV r) := by
      rw [← hns, List.getElem?_toArray, List.append_assoc, List.getElem?_append_right (by simp; omega)]
      have : o + R.length - (cs.toList.take (o + R.length)).length = 0 := by simp; omega
      rw [this]
      rfl
    have hadd : (⟨b, o, none⟩ : Addr).add R.length = ⟨b, o + R.length, none⟩ := by
      unfold Addr.add
      by_cases h0 : R.length = 0
      · rw [if_pos h0, h0]; rfl
      · rw [if_neg h0]
    have hkq : KeepQ w (w.setRow b ns) := fun q t ds ht hq => by
      have hne : q ≠ b := fun e => by
        subst e
        have := hq.symm.trans h1
        simp at this
        exact ht this.2
      exact (setRow_other w b q _ hne).trans hq
    refine ⟨b, o, c, w.setRow b ns, ?_, ⟨⟨ns, setRow_heap w b cs ns _ _ h1, hnz, fun k x hx => ?_⟩, h4, by simp; omega, fun x hx => ?_⟩, hkq, ⟨rfl, rfl, rfl, by simp [World.setRow], fun k hk => setRow_other w b k _ (by omega)⟩⟩
    · simp [Builtin.append_, run_underlying Try.underlying81, sizeOf, typeInfo, hi, hsz, Builtin.lenOf, hroom, hf, hadd, hst]
    · rcases Nat.lt_or_ge k R.length with g | g
      · rw [List.getElem?_append_left g] at hx
        rw [hold _ (by omega)]
        exact h3 k x hx
      · rw [List.getElem?_append_right g] at hx
        have : k = R.length := by
          have := (List.getElem?_eq_some_iff.1 hx).1
          simp at this
          omega
        subst this
        have : r = x := by simpa using hx
        subst this
        exact hnew
    · rcases List.mem_append.1 hx with hx | hx
      · exact (h6 x hx).keep hkq
      · obtain rfl := List.mem_singleton.1 hx
        exact hr.keep hkq
  · have holds : ∀ (j : Nat) u, (R.map rowV)[j]? = some u → w.cell? ((⟨b, o, none⟩ : Addr).add j) = some u := fun j u hu => by
      rw [List.getElem?_map] at hu
      cases hy : R[j]? with
      | none => rw [hy] at hu; cases hu
      | some y =>
        rw [hy] at hu
        have hu : rowV y = u := by simpa using hu
        rw [← hu, show (⟨b, o, none⟩ : Addr).add j = ⟨b, o + j, none⟩ by simp [Addr.add], h1.cell]
        exact h3 j y hy
    have e := run_append_grow (P := Try.prog) w 81 81 33 i (.slice none 0 0) Try.underlying81 hi hz ⟨b, o, none⟩ R.length c (R.map rowV) (by rw [hsz]; simp) holds ad 1 m [rowV r] (by rw [hsz]; rfl) hnews (by omega) (by omega) (growslice_fits (by omega) (by rw [hby]; omega))
    have hge := grownCap_ge w (R.length + 1) c 33
    obtain ⟨gc, hgc⟩ : ∃ z, grownCap w (R.length + 1) c 33 = z := ⟨_, rfl⟩
    rw [hgc] at e hge
    have hg : Grow w (w.drew.alloc (.cells ((R.map rowV).toArray ++ [rowV r].toArray ++ Builtin.zeroCells (Value.slice none 0 0).cells (gc - (R.length + 1))) 33)) := Grow.of_drew (Grow.alloc w.drew _)
    refine ⟨w.heap.size, 0, gc, _, e, ⟨⟨_, heap_alloc_new w.drew _, ?_, fun k x hx => ?_⟩, hlo, by simp; omega, fun x hx => ?_⟩, KeepQ.of_grow hg, Below.mono hg hlo⟩
    · simp [size_zeroCells, Value.cells]; omega
    · rw [Nat.zero_add, Array.getElem?_append_left (by simp; have := (List.getElem?_eq_some_iff.1 hx).1; simpa using this)]
      rw [show (R.map rowV).toArray ++ [rowV r].toArray = ((R ++ [r]).map rowV).toArray by simp, List.getElem?_toArray, List.getElem?_map, hx]
      rfl
    · rcases List.mem_append.1 hx with hx | hx
      · exact (h6 x hx).keep (KeepQ.of_grow hg)
      · obtain rfl := List.mem_singleton.1 hx
        exact hr.keep (KeepQ.of_grow hg)

theorem some_eql_nil (p : Addr) (l c : Nat) (w : World) : (binOp .eql 33 (.slice (some p) l c) (.slice none 0 0)).run Try.prog w = .ok (.bool false) w := by kernel_rfl
theorem none_eql_nil (w : World) : (binOp .eql 33 (.slice none 0 0) (.slice none 0 0)).run Try.prog w = .ok (.bool true) w := by kernel_rfl
theorem some_neq_nil (p : Addr) (l c : Nat) (w : World) : (binOp .neq 33 (.slice (some p) l c) (.slice none 0 0)).run Try.prog w = .ok (.bool true) w := by kernel_rfl
theorem none_neq_nil (w : World) : (binOp .neq 33 (.slice none 0 0) (.slice none 0 0)).run Try.prog w = .ok (.bool false) w := by kernel_rfl
set_option maxRecDepth 100000 in
set_option maxHeartbeats 4000000 in
theorem clone_any (A : Option Addr) (cap n : Nat) (xs : List Int) (w : World) (hA : Ints w n A xs) (hne : xs ≠ []) (hl : xs.length ≤ 1000000) (hn : n ≤ w.heap.size) :
    Calls Try.prog 62 #[.slice A xs.length cap] w fun e w' => ∃ A' cap', e = .returned (.slice A' xs.length cap') ∧ w'.ownsRow w.heap.size 3 1 (.slice A' xs.length cap') xs.length (xs.map (Value.int .i64)) ∧ Below w.heap.size w w' := by
  obtain ⟨i0, hi, hz0, hz1, hz2⟩ := info_parts Try.infoInt
  rcases hA with h | ⟨bA, oA, rfl, hlA, hcA⟩
  · exact absurd h hne
  have hA : Ints w n (some ⟨bA, oA, none⟩) xs := .inr ⟨bA, oA, rfl, hlA, hcA⟩
  have HA := Lib.hid (fun (w0 : World) (hw : Grow w w0) => (hA.more hn).below hw)
  clear hA hcA
  have hown0 : ∀ (W : World) (b : Nat), b = W.heap.size → (W.alloc (.cells #[] 3)).ownsRow b 3 1 (.slice (some ⟨b, 0, none⟩) 0 0) 0 [] := fun W b hb => by
    subst hb
    exact ⟨rfl, .inr ⟨W.heap.size, 0, #[], rfl, Nat.le_refl _, heap_alloc_new W _, Nat.le_refl _, by unfold maxLen; omega, rfl, rfl⟩⟩
  go_enter Try.func62, Try.ntmps62
  have hnil := some_eql_nil
  go_wp2_with (at_builtin; refine wpList_append_ints rfl _ _ 33 rfl w.heap.size 3 i0 (.int .i64 0) 8 Try.underlying33 hi hz0 hz1 hz2 rfl _ 0 [] rfl ?c0 (some ⟨bA, oA, none⟩) xs.length cap w.heap.size xs rfl rfl ?c1 ?c2 ?c3 ?c4 ?_)
  case c0 => exact hown0 _ _ (by simp)
  case c1 => exact HA.out _ (Grow.alloc _ _)
  case c2 => unfold maxLen; omega
  case c3 => omega
  case c4 => simp
  intro v' w1 hown1 hgrow
  obtain ⟨A', cap', rfl⟩ := own_form hown1
  have hb1 : Below w.heap.size w w1 := (((Below.refl _ w).alloc (Nat.le_refl _) _)).grown hgrow (by simp) (fun k hk => by simp [Value.ownBlock] at hk; omega)
  have HO : Hid (w1.ownsRow w.heap.size 3 1 (.slice A' xs.length cap') xs.length (xs.map (Value.int .i64))) := Lib.hid (by simpa using hown1)
  have HB := Lib.hid hb1
  clear hown1 hgrow hown0 hb1
  go_wp2
  go_ret
  exact ⟨A', cap', by simp, HO.out, HB.out⟩

end Go.Proofs.Yticeekkfdkfcgaa
