/- CopySeen: the specification's copy of a sight. -/
import Derived.Test.YtfpmkolaiomabaaGreatNarrow
import Derived.Test.YtfpmkolaiomabaaGreatMirror
namespace Go.Proofs.YtfpmkolaiomabaaGreat
open Go.RowKit

theorem results_copyseen {fn : Func} (h : fn.results = #[.cell 2 50]) (t : Array Value) (W : World) (b : Nat) (v0 v1 v2 v3 v4 v5 v6 v7 v8 v9 v10 v11 : Value)
    (hb : BlockIs W b 50 #[v0, v1, v2, v3, v4, v5, v6, v7, v8, v9, v10, v11]) (ht : t.getD 2 undef = .pointer (some ⟨b, 0, none⟩)) :
    (results fn t).run Tryz.prog W = .ok (.agg #[v0, v1, v2, v3, v4, v5, v6, v7, v8, v9, v10, v11]) W := by
  have hc := hb.cell
  simp only [results, h]
  simp at ht
  simp [go_sem, ht, hc]

set_option maxRecDepth 100000 in
set_option maxHeartbeats 4000000 in
theorem rCopySeenT_any (s : SeenD) (A : Option Addr) (cap B : Nat) (w : World) (hA : Ints w B A s.moves) (hl : s.moves.length ≤ 1000000) (hB : B ≤ w.heap.size) :
    Calls Tryz.prog 35 #[seenV s A cap] w fun e w' => ∃ A' cap', e = .returned (seenV s A' cap') ∧ IntsT w' w.heap.size A' s.moves ∧ Below w.heap.size w w' ∧ s.moves.length ≤ cap' := by
  obtain ⟨i0, hi, hz0, hz1, hz2⟩ := info_parts Tryz.infoInt
  go_enter Tryz.func35, Tryz.ntmps35
  have hown0 : ∀ (W : World) (b : Nat), b = W.heap.size → (W.alloc (.cells #[] 3)).ownsRow b 3 1 (.slice (some ⟨b, 0, none⟩) 0 0) 0 [] := fun W b hb => by
    subst hb
    exact ⟨rfl, .inr ⟨W.heap.size, 0, #[], rfl, Nat.le_refl _, heap_alloc_new W _, Nat.le_refl _, by unfold maxLen; omega, rfl, rfl⟩⟩
  have hA1 := fun o1 o2 o3 : Obj => (hA.more hB).below ((((Below.refl _ w).alloc (Nat.le_refl _) o1).alloc (by simp) o2).alloc (by simp; omega) o3)
  go_wp2_with (at_builtin; refine wpList_append_ints rfl _ _ 22 rfl (w.heap.size + 1 + 1) 3 i0 (.int .i64 0) 8 Tryz.underlying22 hi hz0 hz1 hz2 rfl _ 0 [] rfl ?c0 A s.moves.length cap w.heap.size s.moves rfl rfl ?c1 ?c2 ?c3 ?c4 ?_)
  case c0 => exact hown0 _ _ (by simp)
  case c1 => exact hA1 _ _ _
  case c2 => unfold maxLen; omega
  case c3 => omega
  case c4 => simp
  intro v' w1 hown1 hgrow
  obtain ⟨A', cap', rfl⟩ := own_form hown1
  have hf := (((BlockIs.new w 50 #[.int .i64 s.rights, .int .i64 s.lefts, .int .i64 s.faces, .int .i64 s.regions, .int .i64 s.lost, .int .i64 s.cl, .int .i64 s.ch, .int .i64 s.rl, .int .i64 s.rh, .int .i64 s.al, .int .i64 s.ah, .slice A s.moves.length cap]).old (.cells #[.int .i64 0, .int .i64 0, .int .i64 0, .int .i64 0, .int .i64 0, .int .i64 0, .int .i64 0, .int .i64 0, .int .i64 0, .int .i64 0, .int .i64 0, .slice none 0 0] 50)).old (.cells #[] 3)).grown hgrow (by simp [Value.ownBlock]; omega)
  have hr := ((BlockIs.new (w.alloc (.cells #[.int .i64 s.rights, .int .i64 s.lefts, .int .i64 s.faces, .int .i64 s.regions, .int .i64 s.lost, .int .i64 s.cl, .int .i64 s.ch, .int .i64 s.rl, .int .i64 s.rh, .int .i64 s.al, .int .i64 s.ah, .slice A s.moves.length cap] 50)) 50 #[.int .i64 0, .int .i64 0, .int .i64 0, .int .i64 0, .int .i64 0, .int .i64 0, .int .i64 0, .int .i64 0, .int .i64 0, .int .i64 0, .int .i64 0, .slice none 0 0]).old (.cells #[] 3)).grown hgrow (by simp [Value.ownBlock])
  have hb1 : Below w.heap.size w w1 := (((((Below.refl _ w).alloc (Nat.le_refl _) _).alloc (by simp) _).alloc (by simp; omega) _).grown hgrow (by simp; omega) (fun k hk => by simp [Value.ownBlock] at hk; omega))
  rw [World.size_alloc] at hr
  have HF := Lib.hid hf
  have HR := Lib.hid hr
  have HOWN := Lib.hid hown1
  have HB := Lib.hid hb1
  have hfc := hf.cell
  have hff := hf.frozen
  have hrc := hr.cell
  have hrf := hr.frozen
  clear hf hr hown1 hb1 hgrow hown0 hA1 hA
  go_wp2
  have h1 := twelve_stores (HR.out.far (p := ⟨w.heap.size, 11, none⟩) (by simp) (.slice A' s.moves.length cap')) (.int .i64 s.rights) (.int .i64 s.lefts) (.int .i64 s.faces) (.int .i64 s.regions) (.int .i64 s.lost) (.int .i64 s.cl) (.int .i64 s.ch) (.int .i64 s.rl) (.int .i64 s.rh) (.int .i64 s.al) (.int .i64 s.ah) (.slice A' s.moves.length cap')
  have h2 := HOWN.out
  have h3 := fun (W1 : World) (h : W1.ownsRow (w.heap.size + 1 + 1) 3 1 (.slice A' s.moves.length cap') s.moves.length (s.moves.map (Value.int .i64))) (j : Nat) (u : Value) => ownsRow_setCell_below h (a := ⟨w.heap.size + 1, j, none⟩) (by simp) u
  have h4 := (h3 _ (h3 _ (h3 _ (h3 _ (h3 _ (h3 _ (h3 _ (h3 _ (h3 _ (h3 _ (h3 _ (h3 _ (ownsRow_setCell_below h2 (a := ⟨w.heap.size, 11, none⟩) (by simp; omega) (.slice A' s.moves.length cap')) 0 (.int .i64 s.rights)) 1 (.int .i64 s.lefts)) 2 (.int .i64 s.faces)) 3 (.int .i64 s.regions)) 4 (.int .i64 s.lost)) 5 (.int .i64 s.cl)) 6 (.int .i64 s.ch)) 7 (.int .i64 s.rl)) 8 (.int .i64 s.rh)) 9 (.int .i64 s.al)) 10 (.int .i64 s.ah)) 11 (.slice A' s.moves.length cap'))
  have h5 := (own_intsT h4).mono (lo' := w.heap.size) (by omega)
  have h6 := (own_ints h4).2.2
  have hb2 := HB.out
  clear h2 h3 h4 hfc hff hrc hrf
  refine bodyPost_ret (results_copyseen Tryz.results35 _ _ (w.heap.size + 1) (.int .i64 s.rights) (.int .i64 s.lefts) (.int .i64 s.faces) (.int .i64 s.regions) (.int .i64 s.lost) (.int .i64 s.cl) (.int .i64 s.ch) (.int .i64 s.rl) (.int .i64 s.rh) (.int .i64 s.al) (.int .i64 s.ah) ((.slice A' s.moves.length cap')) h1 rfl) rfl ⟨A', cap', rfl, h5, ?_, h6⟩
  (repeat (first | (with_reducible exact Below.refl _ _) | (with_reducible assumption) | (with_reducible refine Below.drewN_ ?_ _) | (with_reducible refine Below.drew ?_) | (with_reducible refine Below.alloc ?_ (by first | omega | (simp <;> omega)) _) | (with_reducible refine Below.setCell ?_ (by first | omega | (simp <;> omega)) _)))

theorem rCopySeen_any (s : SeenD) (A : Option Addr) (cap B : Nat) (w : World) (hA : Ints w B A s.moves) (hl : s.moves.length ≤ 1000000) (hB : B ≤ w.heap.size) :
    Calls Tryz.prog 35 #[seenV s A cap] w fun e w' => ∃ A' cap', e = .returned (seenV s A' cap') ∧ IntsF w' w.heap.size A' s.moves ∧ Below w.heap.size w w' ∧ s.moves.length ≤ cap' := by
  refine (rCopySeenT_any s A cap B w hA hl hB).mono ?_
  rintro e w' ⟨A', cap', h1, h2, h3⟩
  exact ⟨A', cap', h1, h2.intsF, h3⟩

end Go.Proofs.YtfpmkolaiomabaaGreat
