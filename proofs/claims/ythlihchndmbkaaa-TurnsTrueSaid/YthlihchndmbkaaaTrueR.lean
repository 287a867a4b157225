/- TrueR: the specification's Run, in the law's words. -/
import Derived.Test.YthlihchndmbkaaaRunW
import Derived.Test.YthlihchndmbkaaaTrueM
namespace Go.Proofs.Ythlihchndmbkaaa
open Go.RowKit

theorem run_xs (t : TaskR) (xs : List Int) (A1 : Option Addr) (c1 : Nat) (x : CourseR) (n : Nat) (w : World) (ht : TaskAt w n t) (h1 : Ints w n A1 xs) (hx : CourseAt w n x) (hn : n ≤ w.heap.size) (hk : okTask t.d = true) (hr : okRota t.d xs = true) (hc : isCourseD t.d xs x.st (x.rows.map (·.xs)) = true) :
    Calls Try.prog 21 #[taskV t, .slice A1 xs.length c1, courseKV x] w fun e w' => ∃ A cap R m, e = .returned (.tuple #[.slice A (xs.length + 1) cap, .int .i64 m]) ∧ RowsAt w' w'.heap.size A R ∧ R.length = xs.length + 1 ∧
      (∀ (i k : Nat) (r : RowR), R[i]? = some r → i ≤ xs.length → k < t.d.hands.length → r.xs.length = t.d.hands.length ∧ ∃ v p, r.xs[k]? = some v ∧ (wearyL t.d xs i)[k]? = some p ∧ p.1 ≤ v ∧ v ≤ p.2) ∧
      ((afterD false t.d (natsOf xs)).mis ≤ m ∧ m ≤ (afterD true t.d (natsOf xs)).mis) ∧ Below w.heap.size w w' := by
  obtain ⟨q1, q2, q3⟩ := okRota_parts hr
  obtain ⟨rota, hro⟩ : ∃ q, natsOf xs = q := ⟨_, rfl⟩
  rw [hro] at q2 q3 ⊢
  subst q2
  have hl : (natsL rota).length = rota.length := List.length_map ..
  rw [hl] at q1 ⊢
  refine (run_any t rota A1 c1 x n w ht h1 hx hn (course_run hk q1 q3 hc)).mono ?_
  rintro e w' ⟨A, cap, R, rfl, hR, hm, hb⟩
  have hlen : R.length = rota.length + 1 := by
    have h := congrArg List.length hm
    simpa using h
  refine ⟨A, cap, R, _, rfl, hR, hlen, fun i k r hr' hi hk' => ?_, course_mist hk q1 q3 hc, hb⟩
  have e : r.xs = wearRow t.d.hands.length (runF rota x.st (x.rows.map (·.xs))) i := by
    have h := congrArg (fun l => l[i]?) hm
    simp only [List.getElem?_map, hr', List.getElem?_range (show i < rota.length + 1 by omega), Option.map_some, Option.some.injEq] at h
    exact h
  obtain ⟨p, hp, h1, h2⟩ := weary_between hk q1 q3 hc hi hk'
  exact ⟨by rw [e, wearRow_len], _, p, by rw [e]; simp [wearRow, hk'], hp, h1, h2⟩

end Go.Proofs.Ythlihchndmbkaaa
