/- Best: the result of the search: the first of the best among all right rotas. -/
import Derived.Test.YthlihchndmbkaaaPlanD
import Derived.Test.YthlihchndmbkaaaRight
namespace Go.Proofs.Ythlihchndmbkaaa
open Go.RowKit

/-! the search's result: the first of the best among all right rotas -/
def misOf (t : TaskD) (ys : List Nat) : Int := (afterD true t ys).mis
def complD (t : TaskD) : Nat → List Nat → List (List Nat)
  | 0, first => [first]
  | n + 1, first => (List.range t.hands.length).flatMap fun (h : Nat) => if maySignD t (natsL first) (h : Int) = true then complD t n (first ++ [h]) else []
def pickD (t : TaskD) (b : BestD) (ys : List Nat) : BestD := match b with
  | some (r, m) => if m ≤ misOf t ys then some (r, m) else some (natsL ys, misOf t ys)
  | none => some (natsL ys, misOf t ys)
theorem afterD_snoc (hi : Bool) (t : TaskD) (first : List Nat) (h : Nat) : afterD hi t (first ++ [h]) = signD hi t (afterD hi t first) h := by
  unfold afterD
  rw [List.foldl_append]
  rfl
theorem signD_mis (hi : Bool) (t : TaskD) (s : StD) (h : Nat) : (signD hi t s h).mis = misD t s h := by
  unfold signD
  exact (wearTo_rest hi t.hands h { s with mis := misD t s h } t.hands.length).2.1
theorem misD_ge {t : TaskD} (ht : okTask t = true) {s : StD} (hs : StOK s) (h : Nat) (hh : h < t.hands.length) : s.mis ≤ misD t s h := by
  obtain ⟨⟨_, h3⟩, hho, ⟨_, _⟩, hpo, _, _, hsw0, hsw1⟩ := okTask_parts ht
  obtain ⟨k1, k2, k3, k4, k5⟩ := hs
  have q3 := k5 h (by omega)
  have e2 : t.hands[h]? = some t.hands[h] := List.getElem?_eq_getElem hh
  have q2 := okHand_parts (hho _ (List.mem_of_getElem? e2))
  unfold misD
  rw [e2]
  generalize t.hands[h] = x at q2
  have g2 : 0 ≤ (if 0 < s.parts ∧ s.last ≠ (h : Int) then t.swap else 0) := by split <;> omega
  cases hp : t.parts[s.parts.toNat]? with
  | none =>
    dsimp only
    omega
  | some p =>
    dsimp only
    have q4 := hpo _ (List.mem_of_getElem? hp)
    have g1 : 0 ≤ p * (x.slip + s.get h) := Int.mul_nonneg q4.1 (by omega)
    omega
theorem afterD_ok' {hi : Bool} {t : TaskD} (ht : okTask t = true) {first : List Nat} (hf : ∀ h ∈ first, h < t.hands.length) (hl : first.length ≤ t.parts.length) : StOK (afterD hi t first) ∧ (afterD hi t first).parts = first.length := by
  have h := afterD_ok (hi := hi) ht hf hl first.length (Nat.le_refl _)
  rwa [List.take_length] at h
theorem misOf_snoc {t : TaskD} (ht : okTask t = true) {first : List Nat} (hf : ∀ h ∈ first, h < t.hands.length) (hl : first.length ≤ t.parts.length) {h : Nat} (hh : h < t.hands.length) : misOf t first ≤ misOf t (first ++ [h]) := by
  unfold misOf
  rw [afterD_snoc, signD_mis]
  exact misD_ge ht (afterD_ok' ht hf hl).1 h hh
theorem all_snoc {P : Nat → Prop} {l : List Nat} {h : Nat} (hf : ∀ x ∈ l, P x) (hh : P h) : ∀ x ∈ l ++ [h], P x := fun x hx => by
  rcases List.mem_append.1 hx with g | g
  · exact hf x g
  · rw [List.mem_singleton.1 g]; exact hh
theorem complD_mis {t : TaskD} (ht : okTask t = true) : ∀ (n : Nat) (first : List Nat), first.length + n = t.parts.length → (∀ h ∈ first, h < t.hands.length) → ∀ ys ∈ complD t n first, misOf t first ≤ misOf t ys
  | 0, first, _, _, ys, hy => by
    rw [List.mem_singleton.1 hy]
    exact Int.le_refl _
  | n + 1, first, hl, hf, ys, hy => by
    obtain ⟨h, hh, hy⟩ := List.mem_flatMap.1 hy
    have hh := List.mem_range.1 hh
    split at hy
    · refine Int.le_trans (misOf_snoc ht hf (by omega) hh) (complD_mis ht n (first ++ [h]) (by simp; omega) (all_snoc hf hh) ys hy)
    · simp at hy
theorem pick_stay {t : TaskD} {r : List Int} {m : Int} : ∀ {l : List (List Nat)}, (∀ ys ∈ l, m ≤ misOf t ys) → l.foldl (pickD t) (some (r, m)) = some (r, m)
  | [], _ => rfl
  | ys :: l, h => by
    rw [List.foldl_cons]
    have e : pickD t (some (r, m)) ys = some (r, m) := if_pos (h ys (List.mem_cons_self ..))
    rw [e]
    exact pick_stay fun zs hz => h zs (List.mem_cons_of_mem _ hz)
theorem natsL_snoc (first : List Nat) (h : Nat) : natsL first ++ [(h : Int)] = natsL (first ++ [h]) := by simp
theorem build_compl {t : TaskD} (ht : okTask t = true) : ∀ (n : Nat) (first : List Nat) (best : BestD), first.length + n = t.parts.length → (∀ h ∈ first, h < t.hands.length) → buildD t n (natsL first) (afterD true t first) best = (complD t n first).foldl (pickD t) best
  | 0, first, best, _, _ => by
    match best with
    | none => rfl
    | some (r, m) => rfl
  | n + 1, first, best, hl, hf => by
    have go : (List.range t.hands.length).foldl (fun (b : BestD) (h : Nat) => if maySignD t (natsL first) h = true then buildD t n (natsL first ++ [(h : Int)]) (signD true t (afterD true t first) h) b else b) best = (complD t (n + 1) first).foldl (pickD t) best := by
      show _ = ((List.range t.hands.length).flatMap fun (h : Nat) => if maySignD t (natsL first) (h : Int) = true then complD t n (first ++ [h]) else []).foldl (pickD t) best
      rw [List.foldl_flatMap]
      have : ∀ (l : List Nat) (b : BestD), (∀ h ∈ l, h < t.hands.length) → l.foldl (fun (b : BestD) (h : Nat) => if maySignD t (natsL first) h = true then buildD t n (natsL first ++ [(h : Int)]) (signD true t (afterD true t first) h) b else b) b = l.foldl (fun b (h : Nat) => (if maySignD t (natsL first) (h : Int) = true then complD t n (first ++ [h]) else []).foldl (pickD t) b) b := by
        intro l
        induction l with
        | nil => intro b _; rfl
        | cons h l ih =>
          intro b hb
          rw [List.foldl_cons, List.foldl_cons]
          have e : (if maySignD t (natsL first) h = true then buildD t n (natsL first ++ [(h : Int)]) (signD true t (afterD true t first) h) b else b) = (if maySignD t (natsL first) (h : Int) = true then complD t n (first ++ [h]) else []).foldl (pickD t) b := by
            split
            · rw [natsL_snoc, ← afterD_snoc]
              exact build_compl ht n (first ++ [h]) b (by simp; omega) (all_snoc hf (hb h (List.mem_cons_self ..)))
            · rfl
          rw [e]
          exact ih _ fun x hx => hb x (List.mem_cons_of_mem _ hx)
      exact this _ _ fun h hh => List.mem_range.1 hh
    match best with
    | none => exact go
    | some (r, m) =>
      unfold buildD
      dsimp only
      split
      · rename_i hm
        exact (pick_stay fun ys hy => Int.le_trans hm (complD_mis ht (n + 1) first hl hf ys hy)).symm
      · exact go
theorem plan_compl {t : TaskD} (ht : okTask t = true) : planD t = (complD t t.parts.length []).foldl (pickD t) none :=
  build_compl ht t.parts.length [] none (by simp) (by simp)

/-- all hands of a rota, or of its beginning, are hands of the task, and each may sign -/
def Fit (t : TaskD) (ys : List Nat) : Prop := (∀ h ∈ ys, h < t.hands.length) ∧ ∀ (i y : Nat), ys[i]? = some y → maySignD t (natsL (ys.take i)) (y : Int) = true
theorem Fit.nil (t : TaskD) : Fit t [] := ⟨by simp, by simp⟩
theorem fit_snoc {t : TaskD} {ys : List Nat} {h : Nat} : Fit t (ys ++ [h]) ↔ Fit t ys ∧ h < t.hands.length ∧ maySignD t (natsL ys) (h : Int) = true := by
  constructor
  · rintro ⟨h1, h2⟩
    refine ⟨⟨fun x hx => h1 x (List.mem_append_left _ hx), fun i y hy => ?_⟩, h1 h (by simp), ?_⟩
    · have hl := lt_of_at hy
      have := h2 i y (by rw [List.getElem?_append_left hl]; exact hy)
      rwa [List.take_append_of_le_length (by omega)] at this
    · have := h2 ys.length h (by simp)
      rwa [List.take_left'  rfl] at this
  · rintro ⟨⟨h1, h2⟩, h3, h4⟩
    refine ⟨all_snoc h1 h3, fun i y hy => ?_⟩
    by_cases e : i < ys.length
    · rw [List.getElem?_append_left e] at hy
      rw [List.take_append_of_le_length (by omega)]
      exact h2 i y hy
    · have hl := lt_of_at hy
      simp at hl
      obtain rfl : i = ys.length := by omega
      simp at hy
      subst hy
      rw [List.take_left' rfl]
      exact h4
theorem complD_sound {t : TaskD} : ∀ (n : Nat) (first : List Nat), Fit t first → ∀ ys ∈ complD t n first, Fit t ys ∧ ys.length = first.length + n ∧ ∃ zs, ys = first ++ zs
  | 0, first, hf, ys, hy => by
    rw [List.mem_singleton.1 hy]
    exact ⟨hf, rfl, [], by simp⟩
  | n + 1, first, hf, ys, hy => by
    obtain ⟨h, hh, hy⟩ := List.mem_flatMap.1 hy
    have hh := List.mem_range.1 hh
    split at hy
    · rename_i hm
      obtain ⟨g1, g2, zs, g3⟩ := complD_sound n (first ++ [h]) (fit_snoc.2 ⟨hf, hh, hm⟩) ys hy
      refine ⟨g1, by rw [g2]; simp; omega, h :: zs, by rw [g3]; simp⟩
    · simp at hy
theorem complD_all {t : TaskD} : ∀ (n : Nat) (first zs : List Nat), zs.length = n → Fit t (first ++ zs) → first ++ zs ∈ complD t n first
  | 0, first, zs, hl, _ => by
    rw [List.eq_nil_of_length_eq_zero hl, List.append_nil]
    exact List.mem_singleton.2 rfl
  | n + 1, first, [], hl, _ => by simp at hl
  | n + 1, first, h :: zs, hl, hf => by
    have e : first ++ h :: zs = (first ++ [h]) ++ zs := by simp
    have hh : h < t.hands.length := hf.1 h (by simp)
    have hm : maySignD t (natsL first) (h : Int) = true := by
      have := hf.2 first.length h (by simp)
      rwa [List.take_left' rfl] at this
    refine List.mem_flatMap.2 ⟨h, List.mem_range.2 hh, ?_⟩
    rw [if_pos hm, e]
    exact complD_all n (first ++ [h]) zs (by simpa using hl) (by rw [← e]; exact hf)
/-- of two equally long slices the first has the lower number at the first place at which they differ -/
def beforeL : List Int → List Int → Bool
  | x :: xs, y :: ys => if x = y then beforeL xs ys else decide (x < y)
  | _, _ => false
theorem beforeL_self : ∀ xs : List Int, beforeL xs xs = false
  | [] => rfl
  | x :: xs => by unfold beforeL; rw [if_pos rfl]; exact beforeL_self xs
theorem beforeL_asymm : ∀ {xs ys : List Int}, beforeL xs ys = true → beforeL ys xs = false
  | [], [], h => by simp [beforeL] at h
  | [], _ :: _, h => by simp [beforeL] at h
  | _ :: _, [], h => by simp [beforeL] at h
  | x :: xs, y :: ys, h => by
    unfold beforeL at h ⊢
    split at h
    · rename_i e
      rw [if_pos e.symm]
      exact beforeL_asymm h
    · rename_i e
      rw [if_neg (Ne.symm e)]
      have := of_decide_eq_true h
      exact decide_eq_false (by omega)
theorem beforeL_prefix (ps : List Int) (x y : Int) (us vs : List Int) (h : x < y) : beforeL (ps ++ x :: us) (ps ++ y :: vs) = true := by
  induction ps with
  | nil => show beforeL (x :: us) (y :: vs) = true; unfold beforeL; rw [if_neg (by omega)]; exact decide_eq_true h
  | cons p ps ih => show beforeL (p :: (ps ++ x :: us)) (p :: (ps ++ y :: vs)) = true; unfold beforeL; rw [if_pos rfl]; exact ih
theorem complD_sorted {t : TaskD} : ∀ (n : Nat) (first : List Nat), Fit t first → (complD t n first).Pairwise fun a b => beforeL (natsL a) (natsL b) = true
  | 0, first, _ => List.pairwise_singleton _ _
  | n + 1, first, hf => by
    show ((List.range t.hands.length).flatMap fun (h : Nat) => if maySignD t (natsL first) (h : Int) = true then complD t n (first ++ [h]) else []).Pairwise _
    rw [List.pairwise_flatMap]
    refine ⟨fun h hh => ?_, ?_⟩
    · split
      · rename_i hm
        exact complD_sorted n (first ++ [h]) (fit_snoc.2 ⟨hf, List.mem_range.1 hh, hm⟩)
      · exact List.Pairwise.nil
    · refine (List.pairwise_lt_range (n := t.hands.length)).imp_of_mem fun {h k} hh hk hlt a ha b hb => ?_
      split at ha
      · rename_i m1
        split at hb
        · rename_i m2
          obtain ⟨_, _, us, rfl⟩ := complD_sound n (first ++ [h]) (fit_snoc.2 ⟨hf, List.mem_range.1 hh, m1⟩) a ha
          obtain ⟨_, _, vs, rfl⟩ := complD_sound n (first ++ [k]) (fit_snoc.2 ⟨hf, List.mem_range.1 hk, m2⟩) b hb
          have e : ∀ (x : Nat) (zs : List Nat), natsL (first ++ [x] ++ zs) = natsL first ++ (x : Int) :: natsL zs := fun x zs => by simp
          rw [e, e]
          exact beforeL_prefix _ _ _ _ _ (by omega)
        · simp at hb
      · simp at ha
theorem pick_best {t : TaskD} : ∀ (l : List (List Nat)) (ns : List Nat), l.Pairwise (fun a b => beforeL (natsL a) (natsL b) = true) → (∀ ys ∈ l, beforeL (natsL ns) (natsL ys) = true) →
    ∃ ms, (ms = ns ∨ ms ∈ l) ∧ l.foldl (pickD t) (some (natsL ns, misOf t ns)) = some (natsL ms, misOf t ms) ∧ misOf t ms ≤ misOf t ns ∧ (misOf t ms = misOf t ns → ms = ns) ∧
      ∀ ys ∈ l, misOf t ms < misOf t ys ∨ (misOf t ms = misOf t ys ∧ (ys = ms ∨ beforeL (natsL ms) (natsL ys) = true))
  | [], ns, _, _ => ⟨ns, .inl rfl, rfl, Int.le_refl _, fun _ => rfl, by simp⟩
  | zs :: l, ns, hp, hb => by
    rw [List.foldl_cons]
    have hp' := List.pairwise_cons.1 hp
    by_cases hm : misOf t ns ≤ misOf t zs
    · have e : pickD t (some (natsL ns, misOf t ns)) zs = some (natsL ns, misOf t ns) := if_pos hm
      rw [e]
      obtain ⟨ms, h1, h2, h3, h5, h4⟩ := pick_best (t := t) l ns hp'.2 fun ys hy => hb ys (List.mem_cons_of_mem _ hy)
      refine ⟨ms, ?_, h2, h3, h5, fun ys hy => ?_⟩
      · rcases h1 with h1 | h1
        · exact .inl h1
        · exact .inr (List.mem_cons_of_mem _ h1)
      · rcases List.mem_cons.1 hy with rfl | hy
        · by_cases hlt : misOf t ms < misOf t ys
          · exact .inl hlt
          · have e1 : misOf t ms = misOf t ns := by omega
            obtain rfl := h5 e1
            exact .inr ⟨by omega, .inr (hb ys (List.mem_cons_self ..))⟩
        · exact h4 ys hy
    · have e : pickD t (some (natsL ns, misOf t ns)) zs = some (natsL zs, misOf t zs) := if_neg hm
      rw [e]
      obtain ⟨ms, h1, h2, h3, h5, h4⟩ := pick_best (t := t) l zs hp'.2 hp'.1
      refine ⟨ms, ?_, h2, by omega, fun e => by omega, fun ys hy => ?_⟩
      · rcases h1 with rfl | h1
        · exact .inr (List.mem_cons_self ..)
        · exact .inr (List.mem_cons_of_mem _ h1)
      · rcases List.mem_cons.1 hy with rfl | hy
        · by_cases hlt : misOf t ms < misOf t ys
          · exact .inl hlt
          · have e1 : misOf t ms = misOf t ys := by omega
            exact .inr ⟨e1, .inl (h5 e1).symm⟩
        · exact h4 ys hy
/-- what the plan of a task is -/
theorem planD_none {t : TaskD} (ht : okTask t = true) (h : planD t = none) (ys : List Nat) (hl : ys.length = t.parts.length) : ¬ Fit t ys := fun hf => by
  have hm := complD_all t.parts.length [] ys hl (by simpa using hf)
  rw [plan_compl ht] at h
  rw [List.nil_append] at hm
  cases hc : complD t t.parts.length [] with
  | nil => rw [hc] at hm; simp at hm
  | cons zs l =>
    rw [hc, List.foldl_cons] at h
    have hs := complD_sorted t.parts.length [] (Fit.nil t)
    rw [hc] at hs
    have hs := List.pairwise_cons.1 hs
    obtain ⟨ms, _, h2, _⟩ := pick_best (t := t) l zs hs.2 hs.1
    have h : l.foldl (pickD t) (some (natsL zs, misOf t zs)) = none := h
    rw [h2] at h
    simp at h
theorem planD_some {t : TaskD} (ht : okTask t = true) {xs : List Int} {m : Int} (h : planD t = some (xs, m)) :
    ∃ ms, xs = natsL ms ∧ m = misOf t ms ∧ ms.length = t.parts.length ∧ Fit t ms ∧ ∀ ys, ys.length = t.parts.length → Fit t ys → m < misOf t ys ∨ (m = misOf t ys ∧ beforeL (natsL ys) xs = false) := by
  rw [plan_compl ht] at h
  have hs := complD_sorted t.parts.length [] (Fit.nil t)
  have hso := complD_sound (t := t) t.parts.length [] (Fit.nil t)
  have hal := fun ys hl hf => complD_all (t := t) t.parts.length [] ys hl (by simpa using hf)
  simp only [List.nil_append] at hal
  cases hc : complD t t.parts.length [] with
  | nil => rw [hc] at h; simp at h
  | cons zs l =>
    rw [hc] at h hs hso hal
    rw [List.foldl_cons] at h
    have hs := List.pairwise_cons.1 hs
    obtain ⟨ms, h1, h2, h3, h5, h4⟩ := pick_best (t := t) l zs hs.2 hs.1
    have h : l.foldl (pickD t) (some (natsL zs, misOf t zs)) = some (xs, m) := h
    rw [h2] at h
    obtain ⟨rfl, rfl⟩ := Prod.mk.inj (Option.some.inj h)
    have hmem : ms ∈ zs :: l := by
      rcases h1 with rfl | h1
      · exact List.mem_cons_self ..
      · exact List.mem_cons_of_mem _ h1
    obtain ⟨g1, g2, _⟩ := hso ms hmem
    refine ⟨ms, rfl, rfl, by simpa using g2, g1, fun ys hl hf => ?_⟩
    rcases List.mem_cons.1 (hal ys hl hf) with rfl | hy
    · by_cases hlt : misOf t ms < misOf t ys
      · exact .inl hlt
      · have e1 : misOf t ms = misOf t ys := by omega
        obtain rfl := h5 e1
        exact .inr ⟨rfl, beforeL_self _⟩
    · rcases h4 ys hy with h | ⟨h, g⟩
      · exact .inl h
      · refine .inr ⟨h, ?_⟩
        rcases g with rfl | g
        · exact beforeL_self _
        · exact beforeL_asymm g

end Go.Proofs.Ythlihchndmbkaaa
