/- ExtM: the extreme courses of a rota, as data. -/
import Derived.Test.YthlihchndmbkaaaRunW
namespace Go.Proofs.Ythlihchndmbkaaa
open Go.RowKit

def extSt (hi : Bool) (t : TaskD) : List Int := t.hands.map (startOf hi)
def extRow (hi : Bool) (t : TaskD) (rota : List Nat) (i : Nat) : List Int := (List.range t.hands.length).map (endSp hi t rota i)
def extRows (hi : Bool) (t : TaskD) (rota : List Nat) : List (List Int) := (List.range rota.length).map (extRow hi t rota)
theorem runW_congr {st st' : Nat → Int} {sp sp' : Nat → Nat → Int} {rota : List Nat} {K N : Nat} (h1 : ∀ k, k < K → st k = st' k) (h2 : ∀ i k, i < N → k < K → sp i k = sp' i k) : ∀ i, i ≤ N → ∀ k, k < K → runW st sp rota i k = runW st' sp' rota i k
  | 0, _, k, hk => h1 k hk
  | i + 1, hi, k, hk => by
    have ih := runW_congr (rota := rota) h1 h2 i (by omega) k hk
    unfold runW
    rw [ih, h2 i k (by omega) hk]
theorem runM_congr {t : TaskD} {W W' : Nat → Nat → Int} {rota : List Nat} {K : Nat} (hr : ∀ h ∈ rota, h < K) (h : ∀ i, i < rota.length → ∀ k, k < K → W i k = W' i k) : ∀ i, i ≤ rota.length → runM t W rota i = runM t W' rota i
  | 0, _ => rfl
  | i + 1, hi => by
    have ih := runM_congr (t := t) hr h i (by omega)
    have hk := hr _ (getD_mem (d := 0) (show i < rota.length by omega))
    unfold runM partM
    rw [ih, h i (by omega) _ hk]
theorem extSt_len (hi : Bool) (t : TaskD) : (extSt hi t).length = t.hands.length := by simp [extSt]
theorem extSt_at {hi : Bool} {t : TaskD} {k : Nat} : stF (extSt hi t) k = endSt hi t k ∨ t.hands.length ≤ k := by
  by_cases hk : k < t.hands.length
  · left
    unfold stF endSt startAt extSt
    rw [List.getElem?_eq_getElem hk, getD_at (x := startOf hi t.hands[k]) (by rw [List.getElem?_map, List.getElem?_eq_getElem hk]; rfl)]
  · exact .inr (by omega)
theorem extRow_len (hi : Bool) (t : TaskD) (rota : List Nat) (i : Nat) : (extRow hi t rota i).length = t.hands.length := by simp [extRow]
theorem extRows_at {hi : Bool} {t : TaskD} {rota : List Nat} {i k : Nat} (h1 : i < rota.length) (h2 : k < t.hands.length) : spF (extRows hi t rota) i k = endSp hi t rota i k := by
  unfold spF extRows extRow
  rw [getD_at (x := (List.range t.hands.length).map (endSp hi t rota i)) (by simp [h1]), getD_at (x := endSp hi t rota i k) (by simp [h2])]
theorem start_bounds {h : HandD} (k : okHand h = true) (hi : Bool) : 0 ≤ startOf hi h ∧ startOf hi h ≤ 100 := by
  have := okHand_parts k
  unfold startOf
  cases hi <;> simp <;> omega
theorem sp_bounds {t : TaskD} (hk : okTask t = true) (hi : Bool) (rota : List Nat) (i : Nat) {k : Nat} (h : k < t.hands.length) : 0 ≤ endSp hi t rota i k ∧ endSp hi t rota i k ≤ 20 := by
  have hp := okHand_parts ((okTask_parts hk).2.1 _ (List.getElem_mem h))
  unfold endSp
  rw [List.getElem?_eq_getElem h]
  dsimp only
  unfold tireOf easeOf
  split <;> cases hi <;> simp <;> omega
theorem ext_run {t : TaskD} (hk : okTask t = true) {rota : List Nat} (hr : ∀ h ∈ rota, h < t.hands.length) (hl : rota.length ≤ t.parts.length) (hi : Bool) : RunOK t rota (extSt hi t) (extRows hi t rota) := by
  refine ⟨hk, hr, hl, extSt_len _ _, by simp [extRows], fun r h => ?_, fun v h => ?_, fun r h v hv => ?_⟩
  · obtain ⟨i, _, rfl⟩ := List.mem_map.1 h
    exact extRow_len ..
  · obtain ⟨x, hx, rfl⟩ := List.mem_map.1 h
    exact start_bounds ((okTask_parts hk).2.1 x hx) hi
  · obtain ⟨i, _, rfl⟩ := List.mem_map.1 h
    obtain ⟨k, hk', rfl⟩ := List.mem_map.1 hv
    exact sp_bounds hk hi rota i (List.mem_range.1 hk')
theorem ext_wear {t : TaskD} {rota : List Nat} (hi : Bool) : ∀ i, i ≤ rota.length → ∀ k, k < t.hands.length → runF rota (extSt hi t) (extRows hi t rota) i k = endW hi t rota i k :=
  runW_congr (N := rota.length) (fun k hk => (extSt_at (hi := hi) (t := t) (k := k)).resolve_right (by omega)) fun _ _ h1 h2 => extRows_at h1 h2
theorem ext_row {t : TaskD} (hk : okTask t = true) {rota : List Nat} (hr : ∀ h ∈ rota, h < t.hands.length) (hl : rota.length ≤ t.parts.length) (hi : Bool) {i k : Nat} (h1 : i ≤ rota.length) (h2 : k < t.hands.length) : runF rota (extSt hi t) (extRows hi t rota) i k = (afterD hi t (rota.take i)).get k := by
  rw [ext_wear hi i h1 k h2, (after_run (hi := hi) (okTask_parts hk).1.2 hr hl i h1).1 k h2]
theorem ext_mist {t : TaskD} (hk : okTask t = true) {rota : List Nat} (hr : ∀ h ∈ rota, h < t.hands.length) (hl : rota.length ≤ t.parts.length) (hi : Bool) : runM t (runF rota (extSt hi t) (extRows hi t rota)) rota rota.length = (afterD hi t rota).mis := by
  rw [runM_congr hr (fun i h k h2 => ext_wear hi i (Nat.le_of_lt h) k h2) _ (Nat.le_refl _)]
  have := (after_run (hi := hi) (okTask_parts hk).1.2 hr hl rota.length (Nat.le_refl _)).2.1
  rw [List.take_length] at this
  exact this.symm

end Go.Proofs.Ythlihchndmbkaaa
