/- Round: a region that draws its order, in the round of a range over a function. -/
import Derived.Test.YthehkgpnnndboaaDoorRegion
import Derived.RangeFuncNested
import Derived.RangeFuncCalls
import Derived.OrdersIn
namespace Go.Proofs.YthehkgpnnndboaaDoor
open Go.RowKit

section
variable {P : Program} {ops : Array Oper} {Q : Exit → Act → World → Prop} {l n : Nat}
theorem wpIn_of_wp {o : Oper} {a : Act} {w : World} {K : Act → World → Prop} (hnd : ∀ c, o.op ≠ .defer c) (h : o.wp P a w K Q) : o.wpIn (Fence.wide.inRound l) n P a w K Q := by
  refine ⟨fun _ _ => trivial, ?_⟩
  rw [show (Fence.wide.inRound l).round = some l from rfl, Oper.semAt_some l _ o hnd]
  unfold Oper.wp at h
  generalize (execOp a.eval o).run P w = r at h ⊢
  cases r with
  | ok nx w' =>
    cases nx with
    | value v => exact h
    | skip => exact h
    | defer d => exact h
    | enter f args => exact ⟨fun e => (by cases e), CallsIn.inRound l (callsIn_wide.2 h)⟩
    | row r args => exact ⟨fun e => (by cases e), fun c cs _ => let ⟨v, w', r, s⟩ := h c cs; ⟨v, w', r, stepsIn_wide.2 s⟩⟩
    | _ => exact h.elim
  | halt x w' =>
    cases x with
    | panic v => exact h
    | _ => exact h.elim
theorem wpOpIn_of_wpOp {i : Nat} {K K' : Act → World → Prop} {a : Act} {w : World} (hnd : ∀ o, ops[i]? = some o → ∀ c, o.op ≠ .defer c) (hlo : ¬ LetsOut Q) (hk : ∀ a w, K a w → K' a w) (h : wpOp P ops Q i K a w) : wpOpIn (Fence.wide.inRound l) n P ops Q i K' a w := by
  unfold wpOp at h
  unfold wpOpIn
  cases ho : ops[i]? with
  | none => rw [ho] at h; exact hk _ _ h
  | some o =>
    rw [ho] at h
    simp only at h ⊢
    split at h
    · rename_i hw
      rw [if_pos hw]
      rcases h with h | ⟨_, h⟩
      · exact wpIn_of_wp (hnd o ho) (Oper.wp_mono hk h)
      · exact absurd h hlo
    · rename_i hw
      rw [if_neg hw]
      exact ⟨fun _ _ => trivial, hk _ _ h⟩
theorem wpAnyIn_of_wpAny {md : Region.Mode} (hnd : ∀ (i : Nat) (o : Oper), ops[i]? = some o → ∀ c : Call, o.op ≠ .defer c) (hlo : ¬ LetsOut Q) : ∀ (fuel : Nat) (listed : Array Bool) (a : Act) (w : World), wpAny P md ops Q fuel listed a w → wpAnyIn (Fence.wide.inRound l) n P md ops Q fuel listed a w
  | 0, _, _, _, h => h
  | fuel + 1, _, _, _, h => ⟨h.1, fun i hi => wpOpIn_of_wpOp (hnd i) hlo (fun a w h => wpAnyIn_of_wpAny hnd hlo fuel _ a w h) (h.2 i hi)⟩
end
/-- does no operation defer? -/
def noDefer (l : List Oper) : Bool := l.all fun o => match o.op with
  | .defer _ => false
  | _ => true
theorem noDefer_spec {l : List Oper} (h : noDefer l = true) (i : Nat) (o : Oper) (ho : l.toArray[i]? = some o) (c : Call) : o.op ≠ .defer c := fun e => by
  have hm : o ∈ l := List.mem_of_getElem? (by simpa using ho)
  have := List.all_eq_true.1 h o hm
  rw [e] at this
  cases this
/-- the law of a drawn region, in a round -/
theorem wpIn_region_round {P : Program} {Q : Exit → Act → World → Prop} {id r m : Nat} {l : List Oper} {a0 : Act} {w : World} (n : Nat) (deps : List (List (Nat × Tmp))) (R : World → World → Prop) (D : Nat → Value → World → Prop) (hm : P.follows .mixedOrders = true)
    (hok : (headsOk .any l.toArray n a0.tmps.size && (depsOk .any l.toArray (l.take n) deps && Region.noSelect l.toArray)) = true) (hnd : noDefer l = true) (hlo : ¬ LetsOut Q)
    (hRt : ∀ x y z, R x y → R y z → R x z) (hRr : ∀ x, R x x) (hD : ∀ i v x y, D i v x → R x y → D i v y)
    (hstep : StepsLit P l.toArray a0 w.drew R D deps 0 (l.take n))
    (hfin : ∀ w', R w.drew w' → finVC D w' (l.take n) 0 a0 fun a => wpList P l.toArray Q (l.drop n) a w') :
    (Code.region id l.toArray true).wpIn (Fence.wide.inRound r) m P Q a0 w :=
  wpIn_region_any hm (wpAnyIn_of_wpAny (noDefer_spec hnd) hlo _ _ _ _ (wpAny_region_lit n deps R D hok hRt hRr hD hstep hfin))
end Go.Proofs.YthehkgpnnndboaaDoor
