/- TrueM: a course stands between the best and the worst. -/
import Derived.Test.YthlihchndmbkaaaRunM
import Derived.Test.YthlihchndmbkaaaWeary
namespace Go.Proofs.Ythlihchndmbkaaa
open Go.RowKit

theorem isCourseD_iff {t : TaskD} {rota st : List Int} {steps : List (List Int)} (h : isCourseD t rota st steps = true) :
    st.length = t.hands.length ∧ steps.length = rota.length ∧ (∀ k, k < t.hands.length → startK t st k = true) ∧ ∀ i, i < rota.length → (steps.getD i []).length = t.hands.length ∧ ∀ k, k < t.hands.length → stepK t (rota.getD i 0) (steps.getD i []) k = true := by
  simp only [isCourseD, rowK, Bool.and_eq_true, decide_eq_true_eq, List.all_eq_true, List.mem_range] at h
  exact ⟨h.1, h.2.1, h.2.2.1, h.2.2.2⟩
theorem natsL_getD (rota : List Nat) (i : Nat) (hi : i < rota.length) : (natsL rota).getD i 0 = (rota.getD i 0 : Nat) := by
  rw [getD_at (x := ((rota[i] : Nat) : Int)) (by rw [List.getElem?_map, List.getElem?_eq_getElem hi]; rfl), getD_at (List.getElem?_eq_getElem hi)]
theorem start_facts {t : TaskD} {st : List Int} {k : Nat} (hk : k < t.hands.length) (h : startK t st k = true) : endSt false t k ≤ stF st k ∧ stF st k ≤ endSt true t k := by
  unfold startK at h
  unfold endSt stF
  rw [List.getElem?_eq_getElem hk] at h ⊢
  dsimp only at h
  rw [inB_iff] at h
  exact h
theorem step_facts {t : TaskD} {rota : List Nat} {steps : List (List Int)} {i k : Nat} (hi : i < rota.length) (hk : k < t.hands.length) (h : stepK t ((natsL rota).getD i 0) (steps.getD i []) k = true) :
    if rota[i]? = some k then endSp false t rota i k ≤ spF steps i k ∧ spF steps i k ≤ endSp true t rota i k else endSp true t rota i k ≤ spF steps i k ∧ spF steps i k ≤ endSp false t rota i k := by
  rw [natsL_getD _ _ hi] at h
  unfold stepK at h
  unfold endSp spF
  have hr := getD_at (d := 0) (List.getElem?_eq_getElem hi)
  rw [hr] at h
  rw [List.getElem?_eq_getElem hk] at h ⊢
  rw [List.getElem?_eq_getElem hi]
  dsimp only at h ⊢
  by_cases e : rota[i] = k
  · rw [if_pos (by rw [e])] at h
    have e' : some rota[i] = some k := by rw [e]
    simp only [if_pos e']
    rw [inB_iff] at h
    exact h
  · rw [if_neg (by omega), inB_iff] at h
    have e' : ¬ some rota[i] = some k := fun q => e (Option.some.inj q)
    simp only [if_neg e']
    exact h
theorem course_run {t : TaskD} {rota : List Nat} {st : List Int} {steps : List (List Int)} (hk : okTask t = true) (hl : rota.length = t.parts.length) (hr : ∀ h ∈ rota, h < t.hands.length) (hc : isCourseD t (natsL rota) st steps = true) : RunOK t rota st steps := by
  obtain ⟨h1, h2, h3, h4⟩ := isCourseD_iff hc
  rw [List.length_map] at h2 h4
  have hp := okTask_parts hk
  have hst : ∀ r, r ∈ steps → ∃ i, i < rota.length ∧ steps.getD i [] = r := fun r hr' => by
    obtain ⟨i, hi⟩ := List.getElem?_of_mem hr'
    exact ⟨i, by rw [← h2]; exact lt_of_at hi, getD_at hi⟩
  refine ⟨hk, hr, by omega, h1, h2, fun r hr' => ?_, fun v hv => ?_, fun r hr' v hv => ?_⟩
  · obtain ⟨i, hi, rfl⟩ := hst r hr'
    exact (h4 i hi).1
  · obtain ⟨k, hkv⟩ := List.getElem?_of_mem hv
    have hkl : k < t.hands.length := by rw [← h1]; exact lt_of_at hkv
    have h := h3 k hkl
    unfold startK at h
    rw [List.getElem?_eq_getElem hkl, getD_at hkv] at h
    have ho := okHand_parts (hp.2.1 _ (List.getElem_mem hkl))
    dsimp only at h
    rw [inB_iff] at h
    omega
  · obtain ⟨i, hi, rfl⟩ := hst r hr'
    obtain ⟨k, hkv⟩ := List.getElem?_of_mem hv
    have hkl : k < t.hands.length := by rw [← (h4 i hi).1]; exact lt_of_at hkv
    have h := (h4 i hi).2 k hkl
    unfold stepK at h
    rw [List.getElem?_eq_getElem hkl, getD_at hkv] at h
    have ho := okHand_parts (hp.2.1 _ (List.getElem_mem hkl))
    dsimp only at h
    split at h
    all_goals
      rw [inB_iff] at h
      omega
theorem course_between {t : TaskD} {rota : List Nat} {st : List Int} {steps : List (List Int)} (hc : isCourseD t (natsL rota) st steps = true) :
    ∀ i, i ≤ rota.length → ∀ k, k < t.hands.length → endW false t rota i k ≤ runF rota st steps i k ∧ runF rota st steps i k ≤ endW true t rota i k := by
  obtain ⟨h1, h2, h3, h4⟩ := isCourseD_iff hc
  rw [List.length_map] at h2 h4
  intro i hi k hk
  have hs := fun i k (hk : k < t.hands.length) (hi : i < rota.length) => step_facts hi hk ((h4 i hi).2 k hk)
  refine ⟨runW_le (fun k hk => (start_facts hk (h3 k hk)).1) (fun i k hk hi e => ?_) (fun i k hk hi e => ?_) i hi k hk, runW_le (fun k hk => (start_facts hk (h3 k hk)).2) (fun i k hk hi e => ?_) (fun i k hk hi e => ?_) i hi k hk⟩
  · have h := hs i k hk hi
    rw [if_pos e] at h
    exact h.1
  · have h := hs i k hk hi
    rw [if_neg e] at h
    exact h.2
  · have h := hs i k hk hi
    rw [if_pos e] at h
    exact h.2
  · have h := hs i k hk hi
    rw [if_neg e] at h
    exact h.1
theorem course_mist {t : TaskD} {rota : List Nat} {st : List Int} {steps : List (List Int)} (hk : okTask t = true) (hl : rota.length = t.parts.length) (hr : ∀ h ∈ rota, h < t.hands.length) (hc : isCourseD t (natsL rota) st steps = true) :
    (afterD false t rota).mis ≤ runM t (runF rota st steps) rota rota.length ∧ runM t (runF rota st steps) rota rota.length ≤ (afterD true t rota).mis := by
  have hp := okTask_parts hk
  have hb := course_between hc
  have e1 := (after_run (hi := false) hp.1.2 hr (by omega) rota.length (Nat.le_refl _)).2.1
  have e2 := (after_run (hi := true) hp.1.2 hr (by omega) rota.length (Nat.le_refl _)).2.1
  rw [List.take_length] at e1 e2
  rw [e1, e2]
  exact ⟨runM_le rfl rfl (fun p h => (hp.2.2.2.1 p h).1) hr (fun _ _ => Int.le_refl _) (fun i hi k hk => (hb i (by omega) k hk).1) _ (Nat.le_refl _),
    runM_le rfl rfl (fun p h => (hp.2.2.2.1 p h).1) hr (fun _ _ => Int.le_refl _) (fun i hi k hk => (hb i (by omega) k hk).2) _ (Nat.le_refl _)⟩
/-- the span of weariness of the hand k before the part i holds the course's weariness -/
theorem weary_between {t : TaskD} {rota : List Nat} {st : List Int} {steps : List (List Int)} (hk : okTask t = true) (hl : rota.length = t.parts.length) (hr : ∀ h ∈ rota, h < t.hands.length) (hc : isCourseD t (natsL rota) st steps = true) {i k : Nat} (hi : i ≤ rota.length) (hkl : k < t.hands.length) :
    ∃ p : Int × Int, (wearyL t (natsL rota) i)[k]? = some p ∧ p.1 ≤ runF rota st steps i k ∧ runF rota st steps i k ≤ p.2 := by
  have hp := okTask_parts hk
  have e0 : natsOf ((natsL rota).take i) = rota.take i := by
    unfold natsOf natsL
    rw [← List.map_take, List.map_map]
    exact (List.map_congr_left fun x _ => by simp).trans (List.map_id _)
  refine ⟨_, by unfold wearyL; rw [List.getElem?_map, List.getElem?_range hkl]; rfl, ?_⟩
  rw [e0]
  dsimp only
  rw [(after_run (hi := false) hp.1.2 hr (by omega) i hi).1 k hkl, (after_run (hi := true) hp.1.2 hr (by omega) i hi).1 k hkl]
  exact course_between hc i hi k hkl

end Go.Proofs.Ythlihchndmbkaaa
