/- Mirror forms and canons. Copies of forms. -/
import Derived.Test.YtfpmkolaiomabaaGreatForms
import Derived.Deep.AppendLies
import Derived.Test.YtfpmkolaiomabaaGreatMem
namespace Go.Proofs.YtfpmkolaiomabaaGreat
open Go.RowKit

theorem Tryz.infoInt : (Tryz.prog.info? 3).map (fun i => (i.zero, i.size, i.bytes)) = some (some (.int .i64 0), 1, 8) := by kernel_rfl
set_option maxRecDepth 100000 in
set_option maxHeartbeats 800000 in
theorem mirror_any (f : FormD) (A : Option Addr) (cap B : Nat) (w : World) (hA : Ints w B A f.moves) (hl : f.moves.length ≤ 6) (hB : B ≤ w.heap.size) (hok : okForm f = true) :
    Calls Tryz.prog 84 #[formV f A cap] w fun e w' => ∃ A' cap', e = .returned (formV (mirrorD f) A' cap') ∧ IntsF w' w.heap.size A' (mirrorD f).moves ∧ Below w.heap.size w w' := by
  obtain ⟨r, l, c, row, face, ms⟩ := f
  dsimp only at *
  have hc1 : -3 ≤ c ∧ c ≤ 3 := by simp [okForm, inB] at hok; omega
  obtain ⟨hc1, hc2⟩ := hc1
  have hmv : ∀ (j : Nat) (x : Int), ms[j]? = some x → 0 ≤ x ∧ x ≤ 7 := fun j x hx => okForm_move hok j x hx
  obtain ⟨i0, hi, hz0, hz1, hz2⟩ := info_parts Tryz.infoInt
  clear hok
  go_enter Tryz.func84, Tryz.ntmps84
  go_wp2
  obtain ⟨W, hW, hWb, hf, hr, hsz⟩ : ∃ W, ((w.alloc (Obj.cells #[.int .i64 l, .int .i64 r, .int .i64 (-c), .int .i64 row, .int .i64 face, .slice A ms.length cap] 24)).alloc
      (Obj.cells #[.int .i64 0, .int .i64 0, .int .i64 0, .int .i64 0, .int .i64 0, .slice none 0 0] 24)) = W ∧ Below w.heap.size w W ∧
      BlockIs W w.heap.size 24 #[.int .i64 l, .int .i64 r, .int .i64 (-c), .int .i64 row, .int .i64 face, .slice A ms.length cap] ∧
      BlockIs W (w.heap.size + 1) 24 #[.int .i64 0, .int .i64 0, .int .i64 0, .int .i64 0, .int .i64 0, .slice none 0 0] ∧ w.heap.size + 2 = W.heap.size := by
    refine ⟨_, rfl, by (repeat (first | (with_reducible exact Below.refl _ _) | (with_reducible assumption) | (with_reducible refine Below.drewN_ ?_ _) | (with_reducible refine Below.drew ?_) | (with_reducible refine Below.alloc ?_ (by first | omega | (simp <;> omega)) _) | (with_reducible refine Below.setCell ?_ (by first | omega | (simp <;> omega)) _))), (BlockIs.new _ _ _).old _, ?_, by simp⟩
    have h := BlockIs.new (w.alloc (Obj.cells #[.int .i64 l, .int .i64 r, .int .i64 (-c), .int .i64 row, .int .i64 face, .slice A ms.length cap] 24)) 24 #[.int .i64 0, .int .i64 0, .int .i64 0, .int .i64 0, .int .i64 0, .slice none 0 0]
    simpa using h
  rw [hW]
  have HW := Lib.hid hW
  clear hW
  go_loopw [3, 19] (fun v i wr => ∃ (k : Nat) (A' : Option Addr) (cap' : Nat), k ≤ ms.length ∧ i = .int .i64 k ∧ v = .slice A' k cap' ∧ Below W.heap.size W wr ∧
      wr.ownsRow W.heap.size 3 1 (.slice A' k cap') k (((ms.take k).map fun d => -d % 8).map (Value.int .i64))) (fun _ i _ => ms.length - (intOf i).toNat)
  case atStart => exact ⟨0, none, 0, Nat.zero_le _, rfl, rfl, Below.refl _ _, by simp [World.ownsRow]⟩
  case round =>
    obtain ⟨k, A', cap', hk, rfl, rfl, hbw, hown⟩ := hrel
    have hAw := ((hA.more hB).below hWb).below (hbw.mono (by omega))
    have hz := hbw.size
    by_cases hlt : k < ms.length
    · obtain ⟨b, off, x, rfl, hb, hc, HX⟩ := hAw.at_ hlt
      obtain ⟨hx0, hx7⟩ := hmv k x HX.out
      clear hA hAw
      go_wp2_with (at_builtin; refine wpList_append_own _ rfl _ _ 22 rfl W.heap.size 3 i0 (.int .i64 0) 1 8 Tryz.underlying22 hi hz0 hz1 hz2 rfl (by decide) _ _ _ rfl (hown.alloc _) ⟨wr.heap.size, 0, none⟩ 1 1 [.int .i64 (-x % 8)] rfl rfl ?c1 ?c2 ?c3 ?c4 ?c5 ?_)
      case c1 => exact cell_one_new _ _ _
      case c2 => simp [Value.oneCell']
      case c3 => unfold maxLen; omega
      case c4 => omega
      case c5 => simp; omega
      intro v' w1 hown' hgrow _
      obtain ⟨A2, cap2, rfl⟩ := own_form hown'
      have hb1 := below_grown (hbw.alloc hz _) (hown.alloc _) hgrow (by simp; omega)
      have HO := Lib.hid hown'
      clear hown hown' hgrow
      go_wp2
      go_roundw
      case rel => exact ⟨k + 1, A2, cap2, by omega, by go_num, rfl, hb1, by rw [take_snoc HX.out]; simpa using HO.out⟩
      case measure => simp [intOf]; omega
    · obtain rfl : k = ms.length := by omega
      have hf' := hf.below hbw (by omega)
      have hr' := hr.below hbw (by omega)
      have hfc := hf'.cell
      have hff := hf'.frozen
      have hrc := hr'.cell
      have hrf := hr'.frozen
      have HO := Lib.hid hown
      clear hA hAw hown hmv hi hz0 hz1 hz2
      go_wp2
      have h1 := ((((((hr'.far (p := ⟨w.heap.size, 5, none⟩) (by simp) (.slice A' ms.length cap')).near 0 (.int .i64 l)).near 1 (.int .i64 r)).near 2 (.int .i64 (-c))).near 3 (.int .i64 row)).near 4 (.int .i64 face)).near 5 (.slice A' ms.length cap')
      have h2 := HO.out
      rw [List.take_length] at h2
      have h3 := fun (W1 : World) (h : W1.ownsRow W.heap.size 3 1 (.slice A' ms.length cap') ms.length ((ms.map fun d => -d % 8).map (Value.int .i64))) (j : Nat) (u : Value) => ownsRow_setCell_below h (a := ⟨w.heap.size + 1, j, none⟩) (by simp; omega) u
      have h4 := h3 _ (h3 _ (h3 _ (h3 _ (h3 _ (h3 _ (ownsRow_setCell_below h2 (a := ⟨w.heap.size, 5, none⟩) (by simp; omega) (.slice A' ms.length cap')) 0 (.int .i64 l)) 1 (.int .i64 r)) 2 (.int .i64 (-c))) 3 (.int .i64 row)) 4 (.int .i64 face)) 5 (.slice A' ms.length cap')
      have h5 := (own_intsF h4).mono (lo' := w.heap.size) (by omega)
      clear h2 h3 h4 hfc hff hrc hrf
      refine bodyPost_ret (results_form Tryz.results84 _ _ _ _ _ _ _ _ _ h1 rfl) rfl ⟨A', cap', by simp [formV, mirrorD], h5, (hWb.trans ?_)⟩
      have hb2 := hbw.mono (B' := w.heap.size) (by omega)
      (repeat (first | (with_reducible exact Below.refl _ _) | (with_reducible assumption) | (with_reducible refine Below.drewN_ ?_ _) | (with_reducible refine Below.drew ?_) | (with_reducible refine Below.alloc ?_ (by first | omega | (simp <;> omega)) _) | (with_reducible refine Below.setCell ?_ (by first | omega | (simp <;> omega)) _)))

end Go.Proofs.YtfpmkolaiomabaaGreat

namespace Go.Proofs.YtfpmkolaiomabaaGreat
open Go.RowKit

/-- the integers xs lie at A, in a block of integers from lo on -/
def IntsT (w : World) (lo : Nat) (A : Option Addr) (xs : List Int) : Prop :=
  xs = [] ∨ ∃ b off cs, A = some ⟨b, off, none⟩ ∧ lo ≤ b ∧ BlockIs w b 3 cs ∧ ∀ j x, xs[j]? = some x → w.cell? ⟨b, off + j, none⟩ = some (.int .i64 x)
theorem IntsT.intsF {w : World} {lo : Nat} {A : Option Addr} {xs : List Int} (h : IntsT w lo A xs) : IntsF w lo A xs := by
  rcases h with h | ⟨b, off, cs, h1, h2, h3, h4⟩
  · exact .inl h
  · exact .inr ⟨b, off, h1, h2, h3.lt, h4⟩
theorem IntsT.grown {w w' : World} {lo : Nat} {A : Option Addr} {xs : List Int} {base e size n : Nat} {v : Value} {ys : List Value} (h : IntsT w lo A xs) (ho : w.ownsRow base e size v n ys) (hte : 3 ≠ e) (hg : w.grownBy w' v.ownBlock) : IntsT w' lo A xs := by
  rcases h with h | ⟨b, off, cs, h1, h2, h3, h4⟩
  · exact .inl h
  · have hne : some b ≠ v.ownBlock := by
      rcases ho.2 with ⟨rfl, _⟩ | ⟨g, cap, cur, rfl, _, hh, _⟩
      · simp [Value.ownBlock]
      · intro he
        simp only [Value.ownBlock, Option.some.injEq] at he
        subst he
        unfold BlockIs at h3
        rw [h3] at hh
        injection hh with hh
        injection hh with _ e2 _
        exact hte e2
    have hb := h3.grown hg hne
    refine .inr ⟨b, off, cs, h1, h2, hb, fun j x hj => ?_⟩
    rw [hb.cell, ← h3.cell]
    exact h4 j x hj
theorem IntsT.grow {w w' : World} {lo : Nat} {A : Option Addr} {xs : List Int} (h : IntsT w lo A xs) (hg : Grow w w') : IntsT w' lo A xs := by
  rcases h with h | ⟨b, off, cs, h1, h2, h3, h4⟩
  · exact .inl h
  · exact .inr ⟨b, off, cs, h1, h2, hg.block h3, fun j x hj => hg.cell (h4 j x hj)⟩
theorem IntsT.mono {w : World} {lo lo' : Nat} {A : Option Addr} {xs : List Int} (h : IntsT w lo A xs) (hl : lo' ≤ lo) : IntsT w lo' A xs := by
  rcases h with h | ⟨b, off, cs, h1, h2, h3⟩
  · exact .inl h
  · exact .inr ⟨b, off, cs, h1, by omega, h3⟩
theorem own_intsT {w : World} {base n cap : Nat} {A : Option Addr} {xs : List Int} (h : w.ownsRow base 3 1 (.slice A n cap) n (xs.map (Value.int .i64))) : IntsT w base A xs := by
  have h0 := own_intsF h
  rcases h.2 with ⟨h1, h2⟩ | ⟨g, c, cur, hv, hg, hh, _⟩
  · have := h.1
    rw [List.length_map] at this
    exact .inl (List.eq_nil_of_length_eq_zero (by omega))
  · injection hv with e1 _ _
    subst e1
    rcases h0 with h0 | ⟨b, off, e, h1, h2, h3⟩
    · exact .inl h0
    · injection e with e
      injection e with e1 e2
      subst e1; subst e2
      exact .inr ⟨g, 0, cur, rfl, hg, hh, h3⟩

set_option maxRecDepth 100000 in
set_option maxHeartbeats 2000000 in
theorem rCopyFormT_any (f : FormD) (A : Option Addr) (cap B : Nat) (w : World) (hA : Ints w B A f.moves) (hl : f.moves.length ≤ 1000000) (hB : B ≤ w.heap.size) :
    Calls Tryz.prog 16 #[formV f A cap] w fun e w' => ∃ A' cap', e = .returned (formV f A' cap') ∧ IntsT w' w.heap.size A' f.moves ∧ Below w.heap.size w w' ∧ f.moves.length ≤ cap' := by
  obtain ⟨i0, hi, hz0, hz1, hz2⟩ := info_parts Tryz.infoInt
  go_enter Tryz.func16, Tryz.ntmps16
  have hown0 : ∀ (W : World) (b : Nat), b = W.heap.size → (W.alloc (.cells #[] 3)).ownsRow b 3 1 (.slice (some ⟨b, 0, none⟩) 0 0) 0 [] := fun W b hb => by
    subst hb
    exact ⟨rfl, .inr ⟨W.heap.size, 0, #[], rfl, Nat.le_refl _, heap_alloc_new W _, Nat.le_refl _, by unfold maxLen; omega, rfl, rfl⟩⟩
  have hA1 := fun o1 o2 o3 : Obj => (hA.more hB).below ((((Below.refl _ w).alloc (Nat.le_refl _) o1).alloc (by simp) o2).alloc (by simp; omega) o3)
  go_wp2_with (at_builtin; refine wpList_append_ints rfl _ _ 22 rfl (w.heap.size + 1 + 1) 3 i0 (.int .i64 0) 8 Tryz.underlying22 hi hz0 hz1 hz2 rfl _ 0 [] rfl ?c0 A f.moves.length cap w.heap.size f.moves rfl rfl ?c1 ?c2 ?c3 ?c4 ?_)
  case c0 => exact hown0 _ _ (by simp)
  case c1 => exact hA1 _ _ _
  case c2 => unfold maxLen; omega
  case c3 => omega
  case c4 => simp
  intro v' w1 hown1 hgrow
  obtain ⟨A', cap', rfl⟩ := own_form hown1
  have hf := (((BlockIs.new w 24 #[.int .i64 f.right, .int .i64 f.left, .int .i64 f.column, .int .i64 f.row, .int .i64 f.face, .slice A f.moves.length cap]).old (.cells #[.int .i64 0, .int .i64 0, .int .i64 0, .int .i64 0, .int .i64 0, .slice none 0 0] 24)).old (.cells #[] 3)).grown hgrow (by simp [Value.ownBlock]; omega)
  have hr := ((BlockIs.new (w.alloc (.cells #[.int .i64 f.right, .int .i64 f.left, .int .i64 f.column, .int .i64 f.row, .int .i64 f.face, .slice A f.moves.length cap] 24)) 24 #[.int .i64 0, .int .i64 0, .int .i64 0, .int .i64 0, .int .i64 0, .slice none 0 0]).old (.cells #[] 3)).grown hgrow (by simp [Value.ownBlock])
  have hb1 : Below w.heap.size w w1 := (((((Below.refl _ w).alloc (Nat.le_refl _) _).alloc (by simp) _).alloc (by simp; omega) _).grown hgrow (by simp; omega) (fun k hk => by simp [Value.ownBlock] at hk; omega))
  rw [World.size_alloc] at hr
  have HF := Lib.hid hf
  have HR := Lib.hid hr
  have HOWN := Lib.hid hown1
  have HB := Lib.hid hb1
  have hfc := hf.cell
  have hff := hf.frozen
  have hrc := hr.cell
  have hrf := hr.frozen
  clear hf hr hown1 hb1 hgrow hown0 hA1 hA
  go_wp2
  have h1 := ((((((HR.out.far (p := ⟨w.heap.size, 5, none⟩) (by simp) (.slice A' f.moves.length cap')).near 0 (.int .i64 f.right)).near 1 (.int .i64 f.left)).near 2 (.int .i64 f.column)).near 3 (.int .i64 f.row)).near 4 (.int .i64 f.face)).near 5 (.slice A' f.moves.length cap')
  have h2 := HOWN.out
  have h3 := fun (W1 : World) (h : W1.ownsRow (w.heap.size + 1 + 1) 3 1 (.slice A' f.moves.length cap') f.moves.length (f.moves.map (Value.int .i64))) (j : Nat) (u : Value) => ownsRow_setCell_below h (a := ⟨w.heap.size + 1, j, none⟩) (by simp) u
  have h4 := h3 _ (h3 _ (h3 _ (h3 _ (h3 _ (h3 _ (ownsRow_setCell_below h2 (a := ⟨w.heap.size, 5, none⟩) (by simp; omega) (.slice A' f.moves.length cap')) 0 (.int .i64 f.right)) 1 (.int .i64 f.left)) 2 (.int .i64 f.column)) 3 (.int .i64 f.row)) 4 (.int .i64 f.face)) 5 (.slice A' f.moves.length cap')
  have h6 := (own_ints h4).2.2
  have h5 := (own_intsT h4).mono (lo' := w.heap.size) (by omega)
  have hb2 := HB.out
  clear h2 h3 h4 hfc hff hrc hrf
  refine bodyPost_ret (results_form Tryz.results16 _ _ _ _ _ _ _ _ _ h1 rfl) rfl ⟨A', cap', by simp, h5, ?_, h6⟩
  (repeat (first | (with_reducible exact Below.refl _ _) | (with_reducible assumption) | (with_reducible refine Below.drewN_ ?_ _) | (with_reducible refine Below.drew ?_) | (with_reducible refine Below.alloc ?_ (by first | omega | (simp <;> omega)) _) | (with_reducible refine Below.setCell ?_ (by first | omega | (simp <;> omega)) _)))
theorem rCopyForm_any (f : FormD) (A : Option Addr) (cap B : Nat) (w : World) (hA : Ints w B A f.moves) (hl : f.moves.length ≤ 1000000) (hB : B ≤ w.heap.size) :
    Calls Tryz.prog 16 #[formV f A cap] w fun e w' => ∃ A' cap', e = .returned (formV f A' cap') ∧ IntsF w' w.heap.size A' f.moves ∧ Below w.heap.size w w' := by
  refine (rCopyFormT_any f A cap B w hA hl hB).mono ?_
  rintro e w' ⟨A', cap', h1, h2, h3, _⟩
  exact ⟨A', cap', h1, h2.intsF, h3⟩

end Go.Proofs.YtfpmkolaiomabaaGreat

