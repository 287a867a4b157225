/- Clone: slices.Clone at [[int]]. -/
import Derived.Test.YthlihchndmbkaaaTask
import Derived.Deep.DeepCutAuto
import Derived.Deep.AppendLies
namespace Go.Proofs.Ythlihchndmbkaaa
open Go.RowKit

theorem Try.infoInt : (Try.prog.info? 3).map (fun i => (i.zero, i.size, i.bytes)) = some (some (.int .i64 0), 1, 8) := by kernel_rfl

theorem some_eql_nil (p : Addr) (l c : Nat) (w : World) : (binOp .eql 23 (.slice (some p) l c) (.slice none 0 0)).run Try.prog w = .ok (.bool false) w := by kernel_rfl
theorem none_eql_nil (w : World) : (binOp .eql 23 (.slice none 0 0) (.slice none 0 0)).run Try.prog w = .ok (.bool true) w := by kernel_rfl
theorem some_neq_nil (p : Addr) (l c : Nat) (w : World) : (binOp .neq 23 (.slice (some p) l c) (.slice none 0 0)).run Try.prog w = .ok (.bool true) w := by kernel_rfl
theorem none_neq_nil (w : World) : (binOp .neq 23 (.slice none 0 0) (.slice none 0 0)).run Try.prog w = .ok (.bool false) w := by kernel_rfl
/-- a new row of integers that has room for them -/
def IntsFc (w : World) (lo : Nat) (A : Option Addr) (cap : Nat) (xs : List Int) : Prop := IntsF w lo A xs ∧ xs.length ≤ cap
theorem IntsFc.grow {w w' : World} {lo cap : Nat} {A : Option Addr} {xs : List Int} (h : IntsFc w lo A cap xs) (hb : Below w.heap.size w w') : IntsFc w' lo A cap xs := ⟨h.1.grow hb, h.2⟩
theorem IntsFc.mono {w : World} {lo lo' cap : Nat} {A : Option Addr} {xs : List Int} (h : IntsFc w lo A cap xs) (hl : lo' ≤ lo) : IntsFc w lo' A cap xs := ⟨h.1.mono hl, h.2⟩
theorem IntsFc.setCell {w : World} {lo cap : Nat} {A : Option Addr} {xs : List Int} (h : IntsFc w lo A cap xs) {p : Addr} (hp : p.block < lo) (u : Value) : IntsFc (w.setCell p u) lo A cap xs := ⟨h.1.setCell hp u, h.2⟩
set_option maxRecDepth 100000 in
set_option maxHeartbeats 4000000 in
theorem clone_any (A : Option Addr) (cap n : Nat) (xs : List Int) (w : World) (hA : Ints w n A xs) (hne : xs ≠ []) (hl : xs.length ≤ 1000000) (hn : n ≤ w.heap.size) :
    Calls Try.prog 61 #[.slice A xs.length cap] w fun e w' => ∃ b off cap', e = .returned (.slice (some ⟨b, off, none⟩) xs.length cap') ∧ IntsFc w' w.heap.size (some ⟨b, off, none⟩) cap' xs ∧ Below w.heap.size w w' := by
  obtain ⟨i0, hi, hz0, hz1, hz2⟩ := info_parts Try.infoInt
  rcases hA with h | ⟨bA, oA, rfl, hlA, hcA⟩
  · exact absurd h hne
  have hA : Ints w n (some ⟨bA, oA, none⟩) xs := .inr ⟨bA, oA, rfl, hlA, hcA⟩
  have HA := Lib.hid (fun (w0 : World) (hw : Grow w w0) => (hA.more hn).below hw)
  clear hA hcA
  have hown0 : ∀ (W : World) (b : Nat), b = W.heap.size → (W.alloc (.cells #[] 3)).ownsRow b 3 1 (.slice (some ⟨b, 0, none⟩) 0 0) 0 [] := fun W b hb => by
    subst hb
    exact ⟨rfl, .inr ⟨W.heap.size, 0, #[], rfl, Nat.le_refl _, heap_alloc_new W _, Nat.le_refl _, by unfold maxLen; omega, rfl, rfl⟩⟩
  go_enter Try.func61, Try.ntmps61
  have hnil := some_eql_nil
  go_wp2_with (at_builtin; refine wpList_append_ints rfl _ _ 23 rfl w.heap.size 3 i0 (.int .i64 0) 8 Try.underlying23 hi hz0 hz1 hz2 rfl _ 0 [] rfl ?c0 (some ⟨bA, oA, none⟩) xs.length cap w.heap.size xs rfl rfl ?c1 ?c2 ?c3 ?c4 ?_)
  case c0 => exact hown0 _ _ (by simp)
  case c1 => exact HA.out _ (Grow.alloc _ _)
  case c2 => unfold maxLen; omega
  case c3 => omega
  case c4 => simp
  intro v' w1 hown1 hgrow
  obtain ⟨A', cap', rfl⟩ := own_form hown1
  have hb1 : Below w.heap.size w w1 := (((Below.refl _ w).alloc (Nat.le_refl _) _)).grown hgrow (by simp) (fun k hk => by simp [Value.ownBlock] at hk; omega)
  have HCAP : Hid (xs.length ≤ cap') := (own_ints (xs := xs) (by simpa using hown1)).2.2
  have hF := own_intsF (xs := xs) (by simpa using hown1)
  rcases hF with h | ⟨b, off, rfl, h1, h2, h3⟩
  · exact absurd h hne
  have HF : Hid (IntsF w1 w.heap.size (some ⟨b, off, none⟩) xs) := .inr ⟨b, off, rfl, h1, h2, h3⟩
  have HB := Lib.hid hb1
  clear h3 hown1 hgrow hown0 hb1
  go_wp2
  go_ret
  exact ⟨b, off, cap', by simp, ⟨HF.out, HCAP.out⟩, HB.out⟩

end Go.Proofs.Ythlihchndmbkaaa
