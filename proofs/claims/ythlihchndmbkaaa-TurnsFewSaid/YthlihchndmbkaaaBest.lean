/- Best: the result of the search: the first of the best among all right rotas. Run: courses of a rota; less weariness, fewer mistakes. IsRightM: right rotas, hand by hand. -/
import Derived.Test.YthlihchndmbkaaaPlanD
import Derived.Test.YthlihchndmbkaaaRight
namespace Go.Proofs.Ythlihchndmbkaaa
open Go.RowKit

/-! the search's result: the first of the best among all right rotas -/
def misOf (t : TaskD) (ys : List Nat) : Int := (afterD true t ys).mis
def complD (t : TaskD) : Nat → List Nat → List (List Nat)
  | 0, first => [first]
  | n + 1, first => (List.range t.hands.length).flatMap fun (h : Nat) => if maySignD t (natsL first) (h : Int) = true then complD t n (first ++ [h]) else []
def pickD (t : TaskD) (b : BestD) (ys : List Nat) : BestD := match b with
  | some (r, m) => if m ≤ misOf t ys then some (r, m) else some (natsL ys, misOf t ys)
  | none => some (natsL ys, misOf t ys)
theorem afterD_snoc (hi : Bool) (t : TaskD) (first : List Nat) (h : Nat) : afterD hi t (first ++ [h]) = signD hi t (afterD hi t first) h := by
  unfold afterD
  rw [List.foldl_append]
  rfl
theorem signD_mis (hi : Bool) (t : TaskD) (s : StD) (h : Nat) : (signD hi t s h).mis = misD t s h := by
  unfold signD
  exact (wearTo_rest hi t.hands h { s with mis := misD t s h } t.hands.length).2.1
theorem misD_ge {t : TaskD} (ht : okTask t = true) {s : StD} (hs : StOK s) (h : Nat) (hh : h < t.hands.length) : s.mis ≤ misD t s h := by
  obtain ⟨⟨_, h3⟩, hho, ⟨_, _⟩, hpo, _, _, hsw0, hsw1⟩ := okTask_parts ht
  obtain ⟨k1, k2, k3, k4, k5⟩ := hs
  have q3 := k5 h (by omega)
  have e2 : t.hands[h]? = some t.hands[h] := List.getElem?_eq_getElem hh
  have q2 := okHand_parts (hho _ (List.mem_of_getElem? e2))
  unfold misD
  rw [e2]
  generalize t.hands[h] = x at q2
  have g2 : 0 ≤ (if 0 < s.parts ∧ s.last ≠ (h : Int) then t.swap else 0) := by split <;> omega
  cases hp : t.parts[s.parts.toNat]? with
  | none =>
    dsimp only
    omega
  | some p =>
    dsimp only
    have q4 := hpo _ (List.mem_of_getElem? hp)
    have g1 : 0 ≤ p * (x.slip + s.get h) := Int.mul_nonneg q4.1 (by omega)
    omega
theorem afterD_ok' {hi : Bool} {t : TaskD} (ht : okTask t = true) {first : List Nat} (hf : ∀ h ∈ first, h < t.hands.length) (hl : first.length ≤ t.parts.length) : StOK (afterD hi t first) ∧ (afterD hi t first).parts = first.length := by
  have h := afterD_ok (hi := hi) ht hf hl first.length (Nat.le_refl _)
  rwa [List.take_length] at h
theorem misOf_snoc {t : TaskD} (ht : okTask t = true) {first : List Nat} (hf : ∀ h ∈ first, h < t.hands.length) (hl : first.length ≤ t.parts.length) {h : Nat} (hh : h < t.hands.length) : misOf t first ≤ misOf t (first ++ [h]) := by
  unfold misOf
  rw [afterD_snoc, signD_mis]
  exact misD_ge ht (afterD_ok' ht hf hl).1 h hh
theorem all_snoc {P : Nat → Prop} {l : List Nat} {h : Nat} (hf : ∀ x ∈ l, P x) (hh : P h) : ∀ x ∈ l ++ [h], P x := fun x hx => by
  rcases List.mem_append.1 hx with g | g
  · exact hf x g
  · rw [List.mem_singleton.1 g]; exact hh
theorem complD_mis {t : TaskD} (ht : okTask t = true) : ∀ (n : Nat) (first : List Nat), first.length + n = t.parts.length → (∀ h ∈ first, h < t.hands.length) → ∀ ys ∈ complD t n first, misOf t first ≤ misOf t ys
  | 0, first, _, _, ys, hy => by
    rw [List.mem_singleton.1 hy]
    exact Int.le_refl _
  | n + 1, first, hl, hf, ys, hy => by
    obtain ⟨h, hh, hy⟩ := List.mem_flatMap.1 hy
    have hh := List.mem_range.1 hh
    split at hy
    · refine Int.le_trans (misOf_snoc ht hf (by omega) hh) (complD_mis ht n (first ++ [h]) (by simp; omega) (all_snoc hf hh) ys hy)
    · simp at hy
theorem pick_stay {t : TaskD} {r : List Int} {m : Int} : ∀ {l : List (List Nat)}, (∀ ys ∈ l, m ≤ misOf t ys) → l.foldl (pickD t) (some (r, m)) = some (r, m)
  | [], _ => rfl
  | ys :: l, h => by
    rw [List.foldl_cons]
    have e : pickD t (some (r, m)) ys = some (r, m) := if_pos (h ys (List.mem_cons_self ..))
    rw [e]
    exact pick_stay fun zs hz => h zs (List.mem_cons_of_mem _ hz)
theorem natsL_snoc (first : List Nat) (h : Nat) : natsL first ++ [(h : Int)] = natsL (first ++ [h]) := by simp
theorem build_compl {t : TaskD} (ht : okTask t = true) : ∀ (n : Nat) (first : List Nat) (best : BestD), first.length + n = t.parts.length → (∀ h ∈ first, h < t.hands.length) → buildD t n (natsL first) (afterD true t first) best = (complD t n first).foldl (pickD t) best
  | 0, first, best, _, _ => by
    match best with
    | none => rfl
    | some (r, m) => rfl
  | n + 1, first, best, hl, hf => by
    have go : (List.range t.hands.length).foldl (fun (b : BestD) (h : Nat) => if maySignD t (natsL first) h = true then buildD t n (natsL first ++ [(h : Int)]) (signD true t (afterD true t first) h) b else b) best = (complD t (n + 1) first).foldl (pickD t) best := by
      show _ = ((List.range t.hands.length).flatMap fun (h : Nat) => if maySignD t (natsL first) (h : Int) = true then complD t n (first ++ [h]) else []).foldl (pickD t) best
      rw [List.foldl_flatMap]
      have : ∀ (l : List Nat) (b : BestD), (∀ h ∈ l, h < t.hands.length) → l.foldl (fun (b : BestD) (h : Nat) => if maySignD t (natsL first) h = true then buildD t n (natsL first ++ [(h : Int)]) (signD true t (afterD true t first) h) b else b) b = l.foldl (fun b (h : Nat) => (if maySignD t (natsL first) (h : Int) = true then complD t n (first ++ [h]) else []).foldl (pickD t) b) b := by
        intro l
        induction l with
        | nil => intro b _; rfl
        | cons h l ih =>
          intro b hb
          rw [List.foldl_cons, List.foldl_cons]
          have e : (if maySignD t (natsL first) h = true then buildD t n (natsL first ++ [(h : Int)]) (signD true t (afterD true t first) h) b else b) = (if maySignD t (natsL first) (h : Int) = true then complD t n (first ++ [h]) else []).foldl (pickD t) b := by
            split
            · rw [natsL_snoc, ← afterD_snoc]
              exact build_compl ht n (first ++ [h]) b (by simp; omega) (all_snoc hf (hb h (List.mem_cons_self ..)))
            · rfl
          rw [e]
          exact ih _ fun x hx => hb x (List.mem_cons_of_mem _ hx)
      exact this _ _ fun h hh => List.mem_range.1 hh
    match best with
    | none => exact go
    | some (r, m) =>
      unfold buildD
      dsimp only
      split
      · rename_i hm
        exact (pick_stay fun ys hy => Int.le_trans hm (complD_mis ht (n + 1) first hl hf ys hy)).symm
      · exact go
theorem plan_compl {t : TaskD} (ht : okTask t = true) : planD t = (complD t t.parts.length []).foldl (pickD t) none :=
  build_compl ht t.parts.length [] none (by simp) (by simp)

/-- all hands of a rota, or of its beginning, are hands of the task, and each may sign -/
def Fit (t : TaskD) (ys : List Nat) : Prop := (∀ h ∈ ys, h < t.hands.length) ∧ ∀ (i y : Nat), ys[i]? = some y → maySignD t (natsL (ys.take i)) (y : Int) = true
theorem Fit.nil (t : TaskD) : Fit t [] := ⟨by simp, by simp⟩
theorem fit_snoc {t : TaskD} {ys : List Nat} {h : Nat} : Fit t (ys ++ [h]) ↔ Fit t ys ∧ h < t.hands.length ∧ maySignD t (natsL ys) (h : Int) = true := by
  constructor
  · rintro ⟨h1, h2⟩
    refine ⟨⟨fun x hx => h1 x (List.mem_append_left _ hx), fun i y hy => ?_⟩, h1 h (by simp), ?_⟩
    · have hl := lt_of_at hy
      have := h2 i y (by rw [List.getElem?_append_left hl]; exact hy)
      rwa [List.take_append_of_le_length (by omega)] at this
    · have := h2 ys.length h (by simp)
      rwa [List.take_left'  rfl] at this
  · rintro ⟨⟨h1, h2⟩, h3, h4⟩
    refine ⟨all_snoc h1 h3, fun i y hy => ?_⟩
    by_cases e : i < ys.length
    · rw [List.getElem?_append_left e] at hy
      rw [List.take_append_of_le_length (by omega)]
      exact h2 i y hy
    · have hl := lt_of_at hy
      simp at hl
      obtain rfl : i = ys.length := by omega
      simp at hy
      subst hy
      rw [List.take_left' rfl]
      exact h4
theorem complD_sound {t : TaskD} : ∀ (n : Nat) (first : List Nat), Fit t first → ∀ ys ∈ complD t n first, Fit t ys ∧ ys.length = first.length + n ∧ ∃ zs, ys = first ++ zs
  | 0, first, hf, ys, hy => by
    rw [List.mem_singleton.1 hy]
    exact ⟨hf, rfl, [], by simp⟩
  | n + 1, first, hf, ys, hy => by
    obtain ⟨h, hh, hy⟩ := List.mem_flatMap.1 hy
    have hh := List.mem_range.1 hh
    split at hy
    · rename_i hm
      obtain ⟨g1, g2, zs, g3⟩ := complD_sound n (first ++ [h]) (fit_snoc.2 ⟨hf, hh, hm⟩) ys hy
      refine ⟨g1, by rw [g2]; simp; omega, h :: zs, by rw [g3]; simp⟩
    · simp at hy
theorem complD_all {t : TaskD} : ∀ (n : Nat) (first zs : List Nat), zs.length = n → Fit t (first ++ zs) → first ++ zs ∈ complD t n first
  | 0, first, zs, hl, _ => by
    rw [List.eq_nil_of_length_eq_zero hl, List.append_nil]
    exact List.mem_singleton.2 rfl
  | n + 1, first, [], hl, _ => by simp at hl
  | n + 1, first, h :: zs, hl, hf => by
    have e : first ++ h :: zs = (first ++ [h]) ++ zs := by simp
    have hh : h < t.hands.length := hf.1 h (by simp)
    have hm : maySignD t (natsL first) (h : Int) = true := by
      have := hf.2 first.length h (by simp)
      rwa [List.take_left' rfl] at this
    refine List.mem_flatMap.2 ⟨h, List.mem_range.2 hh, ?_⟩
    rw [if_pos hm, e]
    exact complD_all n (first ++ [h]) zs (by simpa using hl) (by rw [← e]; exact hf)
/-- of two equally long slices the first has the lower number at the first place at which they differ -/
def beforeL : List Int → List Int → Bool
  | x :: xs, y :: ys => if x = y then beforeL xs ys else decide (x < y)
  | _, _ => false
theorem beforeL_self : ∀ xs : List Int, beforeL xs xs = false
  | [] => rfl
  | x :: xs => by unfold beforeL; rw [if_pos rfl]; exact beforeL_self xs
theorem beforeL_asymm : ∀ {xs ys : List Int}, beforeL xs ys = true → beforeL ys xs = false
  | [], [], h => by simp [beforeL] at h
  | [], _ :: _, h => by simp [beforeL] at h
  | _ :: _, [], h => by simp [beforeL] at h
  | x :: xs, y :: ys, h => by
    unfold beforeL at h ⊢
    split at h
    · rename_i e
      rw [if_pos e.symm]
      exact beforeL_asymm h
    · rename_i e
      rw [if_neg (Ne.symm e)]
      have := of_decide_eq_true h
      exact decide_eq_false (by omega)
theorem beforeL_prefix (ps : List Int) (x y : Int) (us vs : List Int) (h : x < y) : beforeL (ps ++ x :: us) (ps ++ y :: vs) = true := by
  induction ps with
  | nil => show beforeL (x :: us) (y :: vs) = true; unfold beforeL; rw [if_neg (by omega)]; exact decide_eq_true h
  | cons p ps ih => show beforeL (p :: (ps ++ x :: us)) (p :: (ps ++ y :: vs)) = true; unfold beforeL; rw [if_pos rfl]; exact ih
theorem complD_sorted {t : TaskD} : ∀ (n : Nat) (first : List Nat), Fit t first → (complD t n first).Pairwise fun a b => beforeL (natsL a) (natsL b) = true
  | 0, first, _ => List.pairwise_singleton _ _
  | n + 1, first, hf => by
    show ((List.range t.hands.length).flatMap fun (h : Nat) => if maySignD t (natsL first) (h : Int) = true then complD t n (first ++ [h]) else []).Pairwise _
    rw [List.pairwise_flatMap]
    refine ⟨fun h hh => ?_, ?_⟩
    · split
      · rename_i hm
        exact complD_sorted n (first ++ [h]) (fit_snoc.2 ⟨hf, List.mem_range.1 hh, hm⟩)
      · exact List.Pairwise.nil
    · refine (List.pairwise_lt_range (n := t.hands.length)).imp_of_mem fun {h k} hh hk hlt a ha b hb => ?_
      split at ha
      · rename_i m1
        split at hb
        · rename_i m2
          obtain ⟨_, _, us, rfl⟩ := complD_sound n (first ++ [h]) (fit_snoc.2 ⟨hf, List.mem_range.1 hh, m1⟩) a ha
          obtain ⟨_, _, vs, rfl⟩ := complD_sound n (first ++ [k]) (fit_snoc.2 ⟨hf, List.mem_range.1 hk, m2⟩) b hb
          have e : ∀ (x : Nat) (zs : List Nat), natsL (first ++ [x] ++ zs) = natsL first ++ (x : Int) :: natsL zs := fun x zs => by simp
          rw [e, e]
          exact beforeL_prefix _ _ _ _ _ (by omega)
        · simp at hb
      · simp at ha
theorem pick_best {t : TaskD} : ∀ (l : List (List Nat)) (ns : List Nat), l.Pairwise (fun a b => beforeL (natsL a) (natsL b) = true) → (∀ ys ∈ l, beforeL (natsL ns) (natsL ys) = true) →
    ∃ ms, (ms = ns ∨ ms ∈ l) ∧ l.foldl (pickD t) (some (natsL ns, misOf t ns)) = some (natsL ms, misOf t ms) ∧ misOf t ms ≤ misOf t ns ∧ (misOf t ms = misOf t ns → ms = ns) ∧
      ∀ ys ∈ l, misOf t ms < misOf t ys ∨ (misOf t ms = misOf t ys ∧ (ys = ms ∨ beforeL (natsL ms) (natsL ys) = true))
  | [], ns, _, _ => ⟨ns, .inl rfl, rfl, Int.le_refl _, fun _ => rfl, by simp⟩
  | zs :: l, ns, hp, hb => by
    rw [List.foldl_cons]
    have hp' := List.pairwise_cons.1 hp
    by_cases hm : misOf t ns ≤ misOf t zs
    · have e : pickD t (some (natsL ns, misOf t ns)) zs = some (natsL ns, misOf t ns) := if_pos hm
      rw [e]
      obtain ⟨ms, h1, h2, h3, h5, h4⟩ := pick_best (t := t) l ns hp'.2 fun ys hy => hb ys (List.mem_cons_of_mem _ hy)
      refine ⟨ms, ?_, h2, h3, h5, fun ys hy => ?_⟩
      · rcases h1 with h1 | h1
        · exact .inl h1
        · exact .inr (List.mem_cons_of_mem _ h1)
      · rcases List.mem_cons.1 hy with rfl | hy
        · by_cases hlt : misOf t ms < misOf t ys
          · exact .inl hlt
          · have e1 : misOf t ms = misOf t ns := by omega
            obtain rfl := h5 e1
            exact .inr ⟨by omega, .inr (hb ys (List.mem_cons_self ..))⟩
        · exact h4 ys hy
    · have e : pickD t (some (natsL ns, misOf t ns)) zs = some (natsL zs, misOf t zs) := if_neg hm
      rw [e]
      obtain ⟨ms, h1, h2, h3, h5, h4⟩ := pick_best (t := t) l zs hp'.2 hp'.1
      refine ⟨ms, ?_, h2, by omega, fun e => by omega, fun ys hy => ?_⟩
      · rcases h1 with rfl | h1
        · exact .inr (List.mem_cons_self ..)
        · exact .inr (List.mem_cons_of_mem _ h1)
      · rcases List.mem_cons.1 hy with rfl | hy
        · by_cases hlt : misOf t ms < misOf t ys
          · exact .inl hlt
          · have e1 : misOf t ms = misOf t ys := by omega
            exact .inr ⟨e1, .inl (h5 e1).symm⟩
        · exact h4 ys hy
/-- what the plan of a task is -/
theorem planD_none {t : TaskD} (ht : okTask t = true) (h : planD t = none) (ys : List Nat) (hl : ys.length = t.parts.length) : ¬ Fit t ys := fun hf => by
  have hm := complD_all t.parts.length [] ys hl (by simpa using hf)
  rw [plan_compl ht] at h
  rw [List.nil_append] at hm
  cases hc : complD t t.parts.length [] with
  | nil => rw [hc] at hm; simp at hm
  | cons zs l =>
    rw [hc, List.foldl_cons] at h
    have hs := complD_sorted t.parts.length [] (Fit.nil t)
    rw [hc] at hs
    have hs := List.pairwise_cons.1 hs
    obtain ⟨ms, _, h2, _⟩ := pick_best (t := t) l zs hs.2 hs.1
    have h : l.foldl (pickD t) (some (natsL zs, misOf t zs)) = none := h
    rw [h2] at h
    simp at h
theorem planD_some {t : TaskD} (ht : okTask t = true) {xs : List Int} {m : Int} (h : planD t = some (xs, m)) :
    ∃ ms, xs = natsL ms ∧ m = misOf t ms ∧ ms.length = t.parts.length ∧ Fit t ms ∧ ∀ ys, ys.length = t.parts.length → Fit t ys → m < misOf t ys ∨ (m = misOf t ys ∧ beforeL (natsL ys) xs = false) := by
  rw [plan_compl ht] at h
  have hs := complD_sorted t.parts.length [] (Fit.nil t)
  have hso := complD_sound (t := t) t.parts.length [] (Fit.nil t)
  have hal := fun ys hl hf => complD_all (t := t) t.parts.length [] ys hl (by simpa using hf)
  simp only [List.nil_append] at hal
  cases hc : complD t t.parts.length [] with
  | nil => rw [hc] at h; simp at h
  | cons zs l =>
    rw [hc] at h hs hso hal
    rw [List.foldl_cons] at h
    have hs := List.pairwise_cons.1 hs
    obtain ⟨ms, h1, h2, h3, h5, h4⟩ := pick_best (t := t) l zs hs.2 hs.1
    have h : l.foldl (pickD t) (some (natsL zs, misOf t zs)) = some (xs, m) := h
    rw [h2] at h
    obtain ⟨rfl, rfl⟩ := Prod.mk.inj (Option.some.inj h)
    have hmem : ms ∈ zs :: l := by
      rcases h1 with rfl | h1
      · exact List.mem_cons_self ..
      · exact List.mem_cons_of_mem _ h1
    obtain ⟨g1, g2, _⟩ := hso ms hmem
    refine ⟨ms, rfl, rfl, by simpa using g2, g1, fun ys hl hf => ?_⟩
    rcases List.mem_cons.1 (hal ys hl hf) with rfl | hy
    · by_cases hlt : misOf t ms < misOf t ys
      · exact .inl hlt
      · have e1 : misOf t ms = misOf t ys := by omega
        obtain rfl := h5 e1
        exact .inr ⟨rfl, beforeL_self _⟩
    · rcases h4 ys hy with h | ⟨h, g⟩
      · exact .inl h
      · refine .inr ⟨h, ?_⟩
        rcases g with rfl | g
        · exact beforeL_self _
        · exact beforeL_asymm g

end Go.Proofs.Ythlihchndmbkaaa

namespace Go.Proofs.Ythlihchndmbkaaa
open Go.RowKit

/-! courses of a rota: the weariness of each hand before each part, and the mistakes -/
def runW (st : Nat → Int) (sp : Nat → Nat → Int) (rota : List Nat) : Nat → Nat → Int
  | 0, k => st k
  | i + 1, k => if rota[i]? = some k then runW st sp rota i k + sp i k else max 0 (runW st sp rota i k - sp i k)
def slipAt (t : TaskD) (k : Nat) : Int := match t.hands[k]? with | some h => h.slip | none => 0
/-- the mistakes of the part i -/
def partM (t : TaskD) (W : Nat → Nat → Int) (rota : List Nat) (i : Nat) : Int :=
  t.parts.getD i 0 * (slipAt t (rota.getD i 0) + W i (rota.getD i 0)) + (if 0 < i ∧ rota.getD i 0 ≠ rota.getD (i - 1) 0 then t.swap else 0)
def runM (t : TaskD) (W : Nat → Nat → Int) (rota : List Nat) : Nat → Int
  | 0 => 0
  | i + 1 => runM t W rota i + partM t W rota i
theorem runW_le {K : Nat} {st st' : Nat → Int} {sp sp' : Nat → Nat → Int} {rota : List Nat} (h1 : ∀ k, k < K → st k ≤ st' k) (h2 : ∀ i k, k < K → i < rota.length → rota[i]? = some k → sp i k ≤ sp' i k) (h3 : ∀ i k, k < K → i < rota.length → rota[i]? ≠ some k → sp' i k ≤ sp i k) :
    ∀ i, i ≤ rota.length → ∀ k, k < K → runW st sp rota i k ≤ runW st' sp' rota i k
  | 0, _, k, hk => h1 k hk
  | i + 1, hi, k, hk => by
    have ih := runW_le (rota := rota) h1 h2 h3 i (by omega) k hk
    unfold runW
    by_cases e : rota[i]? = some k
    · rw [if_pos e, if_pos e]
      have := h2 i k hk (by omega) e
      omega
    · rw [if_neg e, if_neg e]
      have := h3 i k hk (by omega) e
      omega
theorem getD_at {α : Type} {l : List α} {i : Nat} {x d : α} (h : l[i]? = some x) : l.getD i d = x := by simp [List.getD, h]
theorem runM_le {t u : TaskD} {K : Nat} {W W' : Nat → Nat → Int} {rota : List Nat} (hp : u.parts = t.parts) (hs : u.swap = t.swap) (h0 : ∀ p ∈ t.parts, 0 ≤ p) (hr : ∀ h ∈ rota, h < K)
    (hsl : ∀ k, k < K → slipAt u k ≤ slipAt t k) (hw : ∀ i, i < rota.length → ∀ k, k < K → W i k ≤ W' i k) : ∀ i, i ≤ rota.length → runM u W rota i ≤ runM t W' rota i
  | 0, _ => Int.le_refl 0
  | i + 1, hi => by
    have ih := runM_le (W := W) (W' := W') hp hs h0 hr hsl hw i (by omega)
    obtain ⟨k, hk⟩ : ∃ k, rota[i]? = some k := ⟨_, List.getElem?_eq_getElem (by omega)⟩
    have hkK := hr k (List.mem_of_getElem? hk)
    unfold runM partM
    rw [getD_at hk, hp, hs]
    have g1 := hsl k hkK
    have g2 := hw i (by omega) k hkK
    have g3 : 0 ≤ t.parts.getD i 0 := by
      cases e : t.parts[i]? with
      | none => simp [List.getD, e]
      | some p => rw [getD_at e]; exact h0 p (List.mem_of_getElem? e)
    have g4 : t.parts.getD i 0 * (slipAt u k + W i k) ≤ t.parts.getD i 0 * (slipAt t k + W' i k) := Int.mul_le_mul_of_nonneg_left (by omega) g3
    omega
/-- the course in which the same ends of spans count throughout -/
def endSt (hi : Bool) (t : TaskD) (k : Nat) : Int := startAt hi t.hands[k]?
def endSp (hi : Bool) (t : TaskD) (rota : List Nat) (i k : Nat) : Int := match t.hands[k]? with
  | some h => if rota[i]? = some k then tireOf hi h else easeOf hi h
  | none => 0
abbrev endW (hi : Bool) (t : TaskD) (rota : List Nat) : Nat → Nat → Int := runW (endSt hi t) (endSp hi t rota) rota
theorem beginTo_get (hi : Bool) (hs : List HandD) : ∀ k, k ≤ 3 → ∀ j, j < 3 → (beginTo hi hs k).get j = if j < k then startAt hi hs[j]? else 0
  | 0, _, j, hj => by
    match j, hj with
    | 0, _ | 1, _ | 2, _ => rfl
  | k + 1, hk, j, hj => by
    show ((beginTo hi hs k).set k _).get j = _
    rw [StD.get_set _ (by omega) _ j hj]
    by_cases e : j = k
    · subst e
      rw [if_pos rfl, if_pos (by omega)]
    · rw [if_neg e, beginTo_get hi hs k (by omega) j hj]
      by_cases h : j < k
      · rw [if_pos h, if_pos (by omega)]
      · rw [if_neg h, if_neg (by omega)]
theorem beginTo_zero (hi : Bool) (hs : List HandD) : ∀ k, (beginTo hi hs k).mis = 0 ∧ (beginTo hi hs k).parts = 0
  | 0 => ⟨rfl, rfl⟩
  | k + 1 => by
    have h := StD.set_rest (beginTo hi hs k) k (startAt hi hs[k]?)
    have ih := beginTo_zero hi hs k
    exact ⟨h.2.1.trans ih.1, h.1.trans ih.2⟩
theorem signD_get (hi : Bool) (t : TaskD) (s : StD) (hand : Nat) (hl : t.hands.length ≤ 3) {k : Nat} (hk : k < t.hands.length) : (signD hi t s hand).get k = newW hi t.hands[k]? (decide (k = hand)) (s.get k) := by
  have h := wearTo_get hi t.hands hand { s with mis := misD t s hand } t.hands.length hl k (by omega)
  rw [if_pos hk] at h
  exact h
theorem signD_last (hi : Bool) (t : TaskD) (s : StD) (hand : Nat) : (signD hi t s hand).last = hand ∧ (signD hi t s hand).parts = s.parts + 1 := ⟨rfl, rfl⟩
theorem after_run {hi : Bool} {t : TaskD} (hl : t.hands.length ≤ 3) {rota : List Nat} (hf : ∀ h ∈ rota, h < t.hands.length) (hp : rota.length ≤ t.parts.length) :
    ∀ i, i ≤ rota.length → (∀ k, k < t.hands.length → (afterD hi t (rota.take i)).get k = endW hi t rota i k) ∧ (afterD hi t (rota.take i)).mis = runM t (endW hi t rota) rota i ∧ (afterD hi t (rota.take i)).parts = i ∧ (0 < i → (afterD hi t (rota.take i)).last = (rota.getD (i - 1) 0 : Nat))
  | 0, _ => by
    refine ⟨fun k hk => ?_, ?_, ?_, fun h => by omega⟩
    · show (beginTo hi t.hands t.hands.length).get k = startAt hi t.hands[k]?
      rw [beginTo_get hi t.hands _ hl k (by omega), if_pos hk]
    · exact (beginTo_zero hi t.hands _).1
    · exact (beginTo_zero hi t.hands _).2
  | i + 1, hi' => by
    obtain ⟨ih1, ih2, ih3, ih4⟩ := after_run (hi := hi) hl hf hp i (by omega)
    obtain ⟨h, hx⟩ : ∃ h, rota[i]? = some h := ⟨_, List.getElem?_eq_getElem (by omega)⟩
    have hh := hf h (List.mem_of_getElem? hx)
    rw [afterD_take hx]
    generalize afterD hi t (rota.take i) = s at ih1 ih2 ih3 ih4
    refine ⟨fun k hk => ?_, ?_, ?_, fun _ => ?_⟩
    · rw [signD_get hi t s h hl hk, ih1 k hk]
      have e : t.hands[k]? = some t.hands[k] := List.getElem?_eq_getElem hk
      show _ = if rota[i]? = some k then endW hi t rota i k + endSp hi t rota i k else max 0 (endW hi t rota i k - endSp hi t rota i k)
      generalize endW hi t rota i k = q
      unfold endSp newW
      rw [hx, e]
      by_cases g : h = k
      · subst g
        simp
      · have g' : k ≠ h := fun x => g x.symm
        simp [g, g']
    · rw [signD_mis]
      obtain ⟨p, hpx⟩ : ∃ p, t.parts[i]? = some p := ⟨_, List.getElem?_eq_getElem (by omega)⟩
      unfold runM partM misD slipAt
      rw [ih3, Int.toNat_natCast, hpx, getD_at hx, getD_at hpx, List.getElem?_eq_getElem hh, ih1 h hh, ih2]
      dsimp only
      by_cases g : 0 < i
      · rw [ih4 g]
        have e : ((rota.getD (i - 1) 0 : Nat) : Int) ≠ (h : Int) ↔ h ≠ rota.getD (i - 1) 0 := by omega
        simp only [e, Int.natCast_pos, g, true_and]
        omega
      · obtain rfl : i = 0 := by omega
        simp
    · rw [(signD_last hi t s h).2, ih3]; omega
    · rw [(signD_last hi t s h).1]
      simp [hx]
/-- the first K hands of u are no wearier than those of t -/
structure Easy (K : Nat) (t u : TaskD) : Prop where
  parts : u.parts = t.parts
  swap : u.swap = t.swap
  hands : ∀ k, k < K → ∃ h g, t.hands[k]? = some h ∧ u.hands[k]? = some g ∧ g.s0 ≤ h.s0 ∧ g.s1 ≤ h.s1 ∧ g.t0 ≤ h.t0 ∧ g.t1 ≤ h.t1 ∧ h.e0 ≤ g.e0 ∧ h.e1 ≤ g.e1 ∧ g.slip ≤ h.slip
theorem easy_le {K : Nat} {t u : TaskD} (h : Easy K t u) (ht : t.hands.length ≤ 3) (hu : u.hands.length ≤ 3) (h0 : ∀ p ∈ t.parts, 0 ≤ p) {rota : List Nat} (hf : ∀ h ∈ rota, h < K) (hp : rota.length ≤ t.parts.length) (hi : Bool) :
    (afterD hi u rota).mis ≤ (afterD hi t rota).mis := by
  have hK : ∀ k, k < K → k < t.hands.length ∧ k < u.hands.length := fun k hk => by
    obtain ⟨x, y, e1, e2, _⟩ := h.hands k hk
    exact ⟨lt_of_at e1, lt_of_at e2⟩
  have r1 := (after_run (hi := hi) ht (fun x hx => (hK x (hf x hx)).1) hp rota.length (Nat.le_refl _)).2.1
  have r2 := (after_run (hi := hi) hu (fun x hx => (hK x (hf x hx)).2) (by rw [h.parts]; exact hp) rota.length (Nat.le_refl _)).2.1
  rw [List.take_length] at r1 r2
  rw [r1, r2]
  refine runM_le (K := K) h.parts h.swap h0 hf (fun k hk => ?_) (fun i hi' k hk => ?_) _ (Nat.le_refl _)
  · obtain ⟨x, y, e1, e2, h1, h2, h3, h4, h5, h6, h7⟩ := h.hands k hk
    unfold slipAt
    rw [e1, e2]
    exact h7
  · refine runW_le (K := K) (fun k hk => ?_) (fun i k hk _ e => ?_) (fun i k hk _ e => ?_) i (by omega) k hk
    · obtain ⟨x, y, e1, e2, h1, h2, h3, h4, h5, h6, h7⟩ := h.hands k hk
      unfold endSt startAt
      rw [e1, e2]
      unfold startOf
      cases hi <;> simp [h1, h2]
    · obtain ⟨x, y, e1, e2, h1, h2, h3, h4, h5, h6, h7⟩ := h.hands k hk
      unfold endSp tireOf
      rw [e1, e2]
      cases hi <;> simp [e, h3, h4]
    · obtain ⟨x, y, e1, e2, h1, h2, h3, h4, h5, h6, h7⟩ := h.hands k hk
      unfold endSp easeOf
      rw [e1, e2]
      cases hi <;> simp [e, h5, h6]

end Go.Proofs.Ythlihchndmbkaaa

namespace Go.Proofs.Ythlihchndmbkaaa
open Go.RowKit

/-! right rotas, hand by hand -/
theorem fit_iff {t : TaskD} {ys : List Nat} : Fit t ys ↔ (∀ h ∈ ys, h < t.hands.length) ∧ rightD t (natsL ys) = true := by
  unfold Fit rightD rightTo
  refine and_congr_right fun _ => ?_
  rw [List.all_eq_true]
  constructor
  · intro h i hi
    have hi := List.mem_range.1 hi
    rw [List.length_map] at hi
    have e : ys[i]? = some ys[i] := List.getElem?_eq_getElem hi
    have g := h i _ e
    have e2 : (natsL ys).getD i 0 = (ys[i] : Int) := getD_at (by simp [e])
    rw [e2, ← List.map_take]
    exact g
  · intro h i y hy
    have hi := lt_of_at hy
    have g := h i (List.mem_range.2 (by rw [List.length_map]; exact hi))
    have e2 : (natsL ys).getD i 0 = (y : Int) := getD_at (by simp [hy])
    rwa [e2, ← List.map_take] at g
/-- one hand, part by part: how many parts in a row it has signed, and for how many it has rested; none: it signed where it may not -/
def scanStep (t : TaskD) (h : Int) : Option (Int × Int) → Int → Option (Int × Int)
  | none, _ => none
  | some (row, rest), x => if x ≠ h then some (0, rest + 1) else if (row = 0 ∧ rest < t.rest) ∨ row = t.limit then none else some (row + 1, 0)
def scanD (t : TaskD) (h : Int) (xs : List Int) : Option (Int × Int) := xs.foldl (scanStep t h) (some (0, t.rest))
def isRightD (t : TaskD) (xs : List Int) : Bool := (List.range t.hands.length).all fun h => (scanD t (h : Int) xs).isSome
theorem scanD_snoc (t : TaskD) (h : Int) (xs : List Int) (x : Int) : scanD t h (xs ++ [x]) = scanStep t h (scanD t h xs) x := by
  unfold scanD
  rw [List.foldl_append]
  rfl
theorem restsD_snoc (xs : List Int) (x h : Int) : restsD (xs ++ [x]) h = if x ≠ h then restsD xs h + 1 else 0 := by
  unfold restsD
  rw [List.reverse_append]
  simp only [List.reverse_singleton, List.singleton_append, List.takeWhile_cons]
  by_cases e : x = h
  · simp [e]
  · simp [e]
def rowD (xs : List Int) (h : Int) : Nat := (xs.reverse.takeWhile fun x => decide (x = h)).length
theorem rowD_snoc (xs : List Int) (x h : Int) : rowD (xs ++ [x]) h = if x = h then rowD xs h + 1 else 0 := by
  unfold rowD
  rw [List.reverse_append]
  simp only [List.reverse_singleton, List.singleton_append, List.takeWhile_cons]
  by_cases e : x = h
  · simp [e]
  · simp [e]
theorem restsD_le (xs : List Int) (h : Int) : restsD xs h ≤ xs.length := by
  unfold restsD
  have := List.takeWhile_prefix (fun x => decide (x ≠ h)) (l := xs.reverse)
  have := this.length_le
  rwa [List.length_reverse] at this
theorem rowD_le (xs : List Int) (h : Int) : rowD xs h ≤ xs.length := by
  unfold rowD
  have := List.takeWhile_prefix (fun x => decide (x = h)) (l := xs.reverse)
  have := this.length_le
  rwa [List.length_reverse] at this

theorem snoc_ind {α : Type} {P : List α → Prop} (h0 : P []) (h1 : ∀ l x, P l → P (l ++ [x])) : ∀ l, P l := fun l => by
  rw [← List.reverse_reverse l]
  induction l.reverse with
  | nil => exact h0
  | cons x l ih => rw [List.reverse_cons]; exact h1 _ _ ih
/-- a hand has signed in the last part, or has rested; who has rested all the time has not signed -/
theorem rests_row (h : Int) : ∀ xs : List Int, (0 < restsD xs h → rowD xs h = 0) ∧ (restsD xs h = 0 → xs = [] ∨ 0 < rowD xs h) ∧ (h ∉ xs ↔ restsD xs h = xs.length) := by
  refine snoc_ind ⟨fun h => ?_, fun _ => .inl rfl, by simp [restsD]⟩ fun xs x ih => ?_
  · simp [restsD] at h
  · obtain ⟨i1, i2, i3⟩ := ih
    have hle := restsD_le xs h
    rw [restsD_snoc, rowD_snoc]
    by_cases e : x = h
    · subst e
      simp
    · have e' : h ≠ x := fun g => e g.symm
      simp [e, e']
      exact i3
/-- what the scan of one hand has come to -/
theorem scanD_state {t : TaskD} (hlim : 1 ≤ t.limit) (h : Int) : ∀ xs : List Int, ∀ row rest, scanD t h xs = some (row, rest) → row = rowD xs h ∧ rest = (if h ∈ xs then (restsD xs h : Int) else t.rest + xs.length) ∧ (row ≤ t.limit ∨ row = 0) := by
  refine snoc_ind (fun row rest e => ?_) fun xs x ih row rest e => ?_
  · obtain ⟨rfl, rfl⟩ := Prod.mk.inj (Option.some.inj e)
    simp [rowD]
  · rw [scanD_snoc] at e
    cases hs : scanD t h xs with
    | none => rw [hs] at e; simp [scanStep] at e
    | some p =>
      obtain ⟨r0, q0⟩ := p
      rw [hs] at e
      obtain ⟨k1, k2, k3⟩ := ih r0 q0 hs
      unfold scanStep at e
      dsimp only at e
      rw [restsD_snoc, rowD_snoc]
      by_cases hx : x = h
      · subst hx
        simp only [ne_eq, not_true_eq_false, if_false] at e
        split at e
        · simp at e
        · rename_i hc
          obtain ⟨rfl, rfl⟩ := Prod.mk.inj (Option.some.inj e)
          refine ⟨by simp [k1], by simp, ?_⟩
          omega
      · have hx' : h ≠ x := fun g => hx g.symm
        rw [if_pos hx] at e
        obtain ⟨rfl, rfl⟩ := Prod.mk.inj (Option.some.inj e)
        refine ⟨by simp [hx], ?_, .inr rfl⟩
        rw [k2]
        by_cases hm : h ∈ xs
        · simp [hm, hx]
        · simp [hm, hx']; omega
/-- who may not sign again: the row is as long as Limit -/
theorem row_other {xs : List Int} {h : Int} {n : Nat} (hn : n ≤ xs.length) : (xs.drop (xs.length - n)).any (fun x => decide (x ≠ h)) = false ↔ n ≤ rowD xs h := by
  have e : (xs.drop (xs.length - n)).any (fun x => decide (x ≠ h)) = (xs.reverse.take n).any (fun x => decide (x ≠ h)) := by
    rw [List.take_reverse, List.any_reverse]
  rw [e]
  unfold rowD
  have hn' : n ≤ xs.reverse.length := by rw [List.length_reverse]; exact hn
  generalize xs.reverse = ys at hn'
  clear e hn
  induction ys generalizing n with
  | nil => simp at hn'; simp [hn']
  | cons y ys ih =>
    cases n with
    | zero => simp
    | succ n =>
      rw [List.take_succ_cons, List.any_cons, List.takeWhile_cons]
      by_cases g : y = h
      · have := ih (n := n) (by simpa using hn')
        simp [g] at this ⊢
        omega
      · simp [g]
theorem may_step {t : TaskD} (hlim : 1 ≤ t.limit) {xs : List Int} {h row rest : Int} (hs : scanD t h xs = some (row, rest)) : maySignD t xs h = (scanStep t h (some (row, rest)) h).isSome := by
  obtain ⟨k1, k2, k3⟩ := scanD_state hlim h xs row rest hs
  obtain ⟨r1, r2, r3⟩ := rests_row h xs
  have hle := rowD_le xs h
  unfold scanStep maySignD
  simp only [ne_eq, not_true_eq_false, if_false]
  by_cases hr : 0 < restsD xs h
  · have h0 := r1 hr
    rw [if_pos hr]
    have hrow : row = 0 := by omega
    by_cases hm : h ∈ xs
    · have hne : restsD xs h ≠ xs.length := fun g => (r3.2 g) hm
      rw [if_pos hm] at k2
      by_cases g : t.rest ≤ restsD xs h
      · rw [if_neg (by omega)]
        simp [g]
      · rw [if_pos (by omega)]
        simp [g, hne]
    · rw [if_neg hm] at k2
      rw [if_neg (by omega)]
      simp [r3.1 hm]
  · rw [if_neg hr]
    have hr0 : restsD xs h = 0 := by omega
    rcases r2 hr0 with rfl | hrow
    · have : row = 0 := by rw [k1]; rfl
      have hq : rest = t.rest := by rw [k2]; simp
      rw [if_neg (by omega)]
      simp
      omega
    · by_cases g : (xs.length : Int) < t.limit
      · rw [if_neg (by omega)]
        simp [g]
      · have ho := row_other (xs := xs) (h := h) (n := t.limit.toNat) (by omega)
        by_cases gl : row = t.limit
        · rw [if_pos (.inr gl)]
          have := ho.2 (by omega)
          simp only [g, decide_false, Bool.false_or, Option.isSome_none]
          exact this
        · rw [if_neg (by omega)]
          have : ¬ (xs.drop (xs.length - t.limit.toNat)).any (fun x => decide (x ≠ h)) = false := fun q => by have := ho.1 q; omega
          simp only [g, decide_false, Bool.false_or, Option.isSome_some]
          simpa using this
theorem scan_other {t : TaskD} {h x : Int} (hx : x ≠ h) (o : Option (Int × Int)) : (scanStep t h o x).isSome = o.isSome := by
  cases o with
  | none => rfl
  | some p => unfold scanStep; simp [hx]
theorem isRight_snoc {t : TaskD} (hlim : 1 ≤ t.limit) {xs : List Int} {x : Nat} (hx : x < t.hands.length) : isRightD t (xs ++ [(x : Int)]) = (isRightD t xs && maySignD t xs (x : Int)) := by
  unfold isRightD
  apply Bool.eq_iff_iff.2
  rw [Bool.and_eq_true, List.all_eq_true, List.all_eq_true]
  constructor
  · intro h
    have h1 : ∀ k ∈ List.range t.hands.length, (scanD t (k : Int) xs).isSome = true := fun k hk => by
      have g := h k hk
      rw [scanD_snoc] at g
      cases hs : scanD t (k : Int) xs with
      | none => rw [hs] at g; exact g
      | some p => rfl
    refine ⟨h1, ?_⟩
    obtain ⟨p, hp⟩ := Option.isSome_iff_exists.1 (h1 x (List.mem_range.2 hx))
    have g := h x (List.mem_range.2 hx)
    rw [scanD_snoc, hp] at g
    rw [may_step hlim hp]
    exact g
  · rintro ⟨h1, h2⟩ k hk
    rw [scanD_snoc]
    by_cases e : (x : Int) = k
    · obtain ⟨p, hp⟩ := Option.isSome_iff_exists.1 (h1 k hk)
      rw [e] at h2 ⊢
      rw [hp, ← may_step hlim hp]
      exact h2
    · rw [scan_other e]
      exact h1 k hk
theorem rightD_snoc {t : TaskD} {xs : List Int} {x : Int} : rightD t (xs ++ [x]) = (rightD t xs && maySignD t xs x) := by
  unfold rightD
  rw [List.length_append, List.length_singleton, rightTo_succ (y := x) (by simp)]
  rw [List.take_left' rfl]
  congr 1
  unfold rightTo
  apply Bool.eq_iff_iff.2
  rw [List.all_eq_true, List.all_eq_true]
  refine forall_congr' fun i => ?_
  refine imp_congr_right fun hi => ?_
  have hi := List.mem_range.1 hi
  rw [List.take_append_of_le_length (by omega)]
  have : (xs ++ [x]).getD i 0 = xs.getD i 0 := by simp [List.getD, List.getElem?_append_left hi]
  rw [this]
/-- the two words for a right rota are one -/
theorem isRight_right {t : TaskD} (hlim : 1 ≤ t.limit) : ∀ ys : List Nat, (∀ h ∈ ys, h < t.hands.length) → isRightD t (natsL ys) = rightD t (natsL ys) := by
  refine snoc_ind (fun _ => ?_) fun ys x ih hf => ?_
  · unfold isRightD
    apply Bool.eq_iff_iff.2
    rw [List.all_eq_true]
    exact ⟨fun _ => rfl, fun _ _ _ => rfl⟩
  · have e : natsL (ys ++ [x]) = natsL ys ++ [(x : Int)] := by simp
    rw [e, isRight_snoc hlim (hf x (by simp)), rightD_snoc, ih fun h hh => hf h (by simp [hh])]

end Go.Proofs.Ythlihchndmbkaaa

