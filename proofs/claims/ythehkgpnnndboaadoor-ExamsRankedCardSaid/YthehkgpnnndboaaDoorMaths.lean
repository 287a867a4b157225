/- Truth: the mathematics of papers and of their possible truths. It imports nothing of the translation. Sure: mathematics: what the program answers about all possible truths, and what is true of it. It imports nothing of the translation. Marked: mathematics: the next mark, the ranks, who is to blame. It imports nothing of the translation. Boxes: mathematics: the specification's boxes contain the possible truths and no other ones. It imports nothing of the translation. BoxR: mathematics: what the specification reads off its boxes is what the program reads off the truths. It imports nothing of the translation. NextR: mathematics: the width that a further mark leaves, by boxes and by truths. It imports nothing of the translation. ShowM: mathematics: the first truth with a grade; spans hang on what is in a list alone; sums that boxes allow. It imports nothing of the translation. MoreM: mathematics: one more judge, judges who can be right more easily, another number of wrong judges. It imports nothing of the translation. Pure: the mathematics of pools and watches: who is missing, who can be ill. It imports nothing of the translation. Wrong: mathematics: the set of the judges who are wrong, as a number; the biases that are left, as they lie in an array. It imports nothing of the translation. Facts: mathematics: what loops over points, marks and judges have found so far. It imports nothing of the translation. ExM: the example of the chapter, by the kernel. It imports nothing of the translation. -/

namespace Go.Proofs.YthehkgpnnndboaaDoor

structure ItemI where
  w : Int
  m : Int
structure JudgeI where
  lo : Int
  hi : Int
  err : Int
  marks : List Int
structure PaperI where
  items : List ItemI
  judges : List JudgeI
  wrong : Int
  grades : List Int

/-- a judge's biases after one more item -/
def narrow1 (err mark x : Int) (b : Int × Int) : Int × Int := if mark = -1 then b else (max b.1 (mark - x - err), min b.2 (mark - x + err))
/-- a judge's biases after the first items -/
def spanJ (j : JudgeI) (ps : List Int) : Int × Int := (j.marks.zip ps).foldl (fun b z => narrow1 j.err z.1 z.2 b) (j.lo, j.hi)
def rightJ (j : JudgeI) (ps : List Int) : Bool := decide ((spanJ j ps).1 ≤ (spanJ j ps).2)
/-- the set of the judges who are wrong, and how many they are -/
def wrongN : List JudgeI → Nat → List Int → Nat
  | [], _, _ => 0
  | j :: l, k, ps => (if rightJ j ps then 0 else 2 ^ k) + wrongN l (k + 1) ps
def wrongC (l : List JudgeI) (ps : List Int) : Nat := l.countP fun j => !rightJ j ps

theorem zip_snoc {α β : Type} : ∀ (l : List α) (ps : List β) (x : β) (m : α), l[ps.length]? = some m → l.zip (ps ++ [x]) = l.zip ps ++ [(m, x)]
  | [], ps, x, m, h => by simp at h
  | a :: l, [], x, m, h => by
    have h : a = m := by simpa using h
    subst h
    show (a, x) :: l.zip [] = [(a, x)]
    rw [List.zip_nil_right]
  | a :: l, p :: ps, x, m, h => by
    have ih := zip_snoc l ps x m (by simpa using h)
    show (a, p) :: l.zip (ps ++ [x]) = (a, p) :: (l.zip ps ++ [(m, x)])
    rw [ih]
theorem spanJ_snoc (j : JudgeI) (ps : List Int) (x m : Int) (h : j.marks[ps.length]? = some m) : spanJ j (ps ++ [x]) = narrow1 j.err m x (spanJ j ps) := by
  unfold spanJ
  rw [zip_snoc _ _ _ _ h, List.foldl_append]
  rfl
theorem spanJ_nil (j : JudgeI) : spanJ j [] = (j.lo, j.hi) := by
  unfold spanJ
  cases j.marks <;> rfl
/-- a bias that is in the span is one with which all marks agree -/
theorem narrow1_in (err mark x b : Int) (s : Int × Int) : ((narrow1 err mark x s).1 ≤ b ∧ b ≤ (narrow1 err mark x s).2) ↔ ((s.1 ≤ b ∧ b ≤ s.2) ∧ (mark = -1 ∨ (-err ≤ mark - x - b ∧ mark - x - b ≤ err))) := by
  unfold narrow1
  split
  · rename_i h
    simp [h]
  · rename_i h
    dsimp only
    constructor
    · rintro ⟨h1, h2⟩
      exact ⟨by omega, .inr (by omega)⟩
    · rintro ⟨⟨h1, h2⟩, h3⟩
      rcases h3 with h3 | h3
      · exact absurd h3 h
      · omega
theorem fold_in (err b : Int) : ∀ (l : List (Int × Int)) (s : Int × Int), ((l.foldl (fun b z => narrow1 err z.1 z.2 b) s).1 ≤ b ∧ b ≤ (l.foldl (fun b z => narrow1 err z.1 z.2 b) s).2) ↔ ((s.1 ≤ b ∧ b ≤ s.2) ∧ ∀ z ∈ l, z.1 = -1 ∨ (-err ≤ z.1 - z.2 - b ∧ z.1 - z.2 - b ≤ err))
  | [], s => by simp
  | z :: l, s => by
    rw [List.foldl_cons, fold_in err b l, narrow1_in]
    constructor
    · rintro ⟨⟨h1, h2⟩, h3⟩
      refine ⟨h1, fun y hy => ?_⟩
      rcases List.mem_cons.1 hy with rfl | hy
      · exact h2
      · exact h3 y hy
    · rintro ⟨h1, h2⟩
      exact ⟨⟨h1, h2 z List.mem_cons_self⟩, fun y hy => h2 y (List.mem_cons_of_mem _ hy)⟩
/-- does a bias fit all marks? -/
def fitsB (j : JudgeI) (ps : List Int) (b : Int) : Bool := (j.marks.zip ps).all fun z => decide (z.1 = -1) || (decide (-j.err ≤ z.1 - z.2 - b) && decide (z.1 - z.2 - b ≤ j.err))
theorem right_iff (j : JudgeI) (ps : List Int) : rightJ j ps = true ↔ ∃ b, j.lo ≤ b ∧ b ≤ j.hi ∧ fitsB j ps b = true := by
  unfold rightJ
  rw [decide_eq_true_iff]
  have key : ∀ b, ((spanJ j ps).1 ≤ b ∧ b ≤ (spanJ j ps).2) ↔ (j.lo ≤ b ∧ b ≤ j.hi ∧ fitsB j ps b = true) := fun b => by
    unfold spanJ
    rw [fold_in]
    unfold fitsB
    rw [List.all_eq_true]
    simp only [Bool.or_eq_true, Bool.and_eq_true, decide_eq_true_eq, and_assoc]
  constructor
  · intro h
    exact ⟨_, (key (spanJ j ps).1).1 ⟨Int.le_refl _, h⟩⟩
  · rintro ⟨b, hb⟩
    have := (key b).2 hb
    omega
theorem zip_prefix {α β : Type} : ∀ (l : List α) (ps qs : List β) (z : α × β), z ∈ l.zip ps → z ∈ l.zip (ps ++ qs)
  | [], _, _, _, h => by simp at h
  | _ :: _, [], _, _, h => by simp at h
  | a :: l, p :: ps, qs, z, h => by
    show z ∈ (a, p) :: l.zip (ps ++ qs)
    rcases List.mem_cons.1 (show z ∈ (a, p) :: l.zip ps from h) with rfl | h
    · exact List.mem_cons_self
    · exact List.mem_cons_of_mem _ (zip_prefix l ps qs z h)
/-- whoever is wrong about the first items stays so -/
theorem right_prefix (j : JudgeI) (ps qs : List Int) (h : rightJ j (ps ++ qs) = true) : rightJ j ps = true := by
  rw [right_iff] at h ⊢
  obtain ⟨b, h1, h2, h3⟩ := h
  refine ⟨b, h1, h2, ?_⟩
  unfold fitsB at h3 ⊢
  rw [List.all_eq_true] at h3 ⊢
  exact fun z hz => h3 z (zip_prefix _ _ _ _ hz)
theorem wrongC_prefix (l : List JudgeI) (ps qs : List Int) : wrongC l ps ≤ wrongC l (ps ++ qs) := by
  unfold wrongC
  refine List.countP_mono_left fun j _ h => ?_
  rw [Bool.not_eq_true'] at h ⊢
  cases h2 : rightJ j (ps ++ qs) with
  | false => rfl
  | true => rw [right_prefix j ps qs h2] at h; cases h
/-- are there so many points for each of some items? -/
def fitsI : List ItemI → List Int → Bool
  | [], [] => true
  | x :: l, p :: ps => (decide (0 ≤ p) && decide (p ≤ x.m)) && fitsI l ps
  | _, _ => false
/-- a possible truth -/
def possD (d : PaperI) (ps : List Int) : Bool := fitsI d.items ps && decide ((wrongC d.judges ps : Int) ≤ d.wrong)
/-- the points of an item -/
def pointsL (m : Int) : List Int := (List.range (m + 1).toNat).map fun (k : Nat) => (k : Int)
theorem mem_points {m x : Int} : x ∈ pointsL m ↔ 0 ≤ x ∧ x ≤ m := by
  unfold pointsL
  rw [List.mem_map]
  constructor
  · rintro ⟨k, hk, rfl⟩
    rw [List.mem_range] at hk
    omega
  · rintro ⟨h1, h2⟩
    exact ⟨x.toNat, by rw [List.mem_range]; omega, by omega⟩
/-- all possible truths that begin with some points, in order -/
def walkD (js : List JudgeI) (wrong : Int) : List ItemI → List Int → List (List Int)
  | [], ps => if (wrongC js ps : Int) ≤ wrong then [ps] else []
  | x :: l, ps => if (wrongC js ps : Int) ≤ wrong then (pointsL x.m).flatMap fun p => walkD js wrong l (ps ++ [p]) else []
theorem mem_walk (js : List JudgeI) (wrong : Int) : ∀ (l : List ItemI) (ps qs : List Int), qs ∈ walkD js wrong l ps ↔ ∃ rs, qs = ps ++ rs ∧ fitsI l rs = true ∧ (wrongC js qs : Int) ≤ wrong
  | [], ps, qs => by
    unfold walkD
    constructor
    · intro h
      split at h
      · rename_i h1
        have h : qs = ps := by simpa using h
        subst h
        exact ⟨[], by simp, rfl, h1⟩
      · simp at h
    · rintro ⟨rs, rfl, h1, h2⟩
      cases rs with
      | nil => rw [List.append_nil] at h2 ⊢; rw [if_pos h2]; simp
      | cons r rs => cases h1
  | x :: l, ps, qs => by
    unfold walkD
    constructor
    · intro h
      split at h
      · obtain ⟨p, hp, hq⟩ := List.mem_flatMap.1 h
        obtain ⟨rs, rfl, h1, h2⟩ := (mem_walk js wrong l (ps ++ [p]) qs).1 hq
        have hp := mem_points.1 hp
        refine ⟨p :: rs, by simp, ?_, h2⟩
        unfold fitsI
        rw [h1, decide_eq_true hp.1, decide_eq_true hp.2]
        rfl
      · simp at h
    · rintro ⟨rs, rfl, h1, h2⟩
      cases rs with
      | nil => cases h1
      | cons r rs =>
        unfold fitsI at h1
        rw [Bool.and_eq_true, Bool.and_eq_true, decide_eq_true_iff, decide_eq_true_iff] at h1
        have h3 := wrongC_prefix js ps (r :: rs)
        rw [if_pos (by omega)]
        refine List.mem_flatMap.2 ⟨r, mem_points.2 h1.1, (mem_walk js wrong l (ps ++ [r]) _).2 ⟨rs, by simp, h1.2, h2⟩⟩
def truthsL (d : PaperI) : List (List Int) := walkD d.judges d.wrong d.items []
theorem mem_truths {d : PaperI} {ps : List Int} : ps ∈ truthsL d ↔ possD d ps = true := by
  unfold truthsL possD
  rw [mem_walk, Bool.and_eq_true, decide_eq_true_iff]
  constructor
  · rintro ⟨rs, rfl, h1, h2⟩
    exact ⟨h1, h2⟩
  · rintro ⟨h1, h2⟩
    exact ⟨ps, rfl, h1, h2⟩
theorem fitsI_len : ∀ {l : List ItemI} {ps : List Int}, fitsI l ps = true → ps.length = l.length
  | [], [], _ => rfl
  | [], _ :: _, h => by cases h
  | _ :: _, [], h => by cases h
  | x :: l, p :: ps, h => by
    unfold fitsI at h
    rw [Bool.and_eq_true] at h
    rw [List.length_cons, List.length_cons, fitsI_len h.2]
theorem fitsI_at : ∀ {l : List ItemI} {ps : List Int}, fitsI l ps = true → ∀ {k : Nat} {x : ItemI} {p : Int}, l[k]? = some x → ps[k]? = some p → 0 ≤ p ∧ p ≤ x.m
  | [], _, _, _, _, _, h, _ => by simp at h
  | _ :: _, [], h, _, _, _, _, _ => by cases h
  | y :: l, q :: ps, h, 0, x, p, h1, h2 => by
    unfold fitsI at h
    rw [Bool.and_eq_true, Bool.and_eq_true, decide_eq_true_iff, decide_eq_true_iff] at h
    obtain rfl : y = x := by simpa using h1
    obtain rfl : q = p := by simpa using h2
    exact h.1
  | y :: l, q :: ps, h, k + 1, x, p, h1, h2 => by
    unfold fitsI at h
    rw [Bool.and_eq_true] at h
    exact fitsI_at h.2 (by simpa using h1) (by simpa using h2)
/-- the result of a truth, its grade -/
def resD : List ItemI → List Int → Int
  | x :: l, p :: ps => p * x.w + resD l ps
  | _, _ => 0
def gradeD (gs : List Int) (r : Int) : Nat := gs.countP fun g => decide (g ≤ r)
/-- spans -/
def joinS (x y : Int × Int) : Int × Int := (min x.1 y.1, max x.2 y.2)
def noneS : Int × Int := (1201, -1)
def withS (x : Int × Int) (n : Int) : Int × Int := joinS x (n, n)
def spanS (l : List Int) : Int × Int := l.foldl withS noneS
theorem fold_with : ∀ (l : List Int) (s : Int × Int), (l.foldl withS s).1 ≤ s.1 ∧ s.2 ≤ (l.foldl withS s).2 ∧ (∀ n ∈ l, (l.foldl withS s).1 ≤ n ∧ n ≤ (l.foldl withS s).2) ∧ ((l.foldl withS s).1 = s.1 ∨ (l.foldl withS s).1 ∈ l) ∧ ((l.foldl withS s).2 = s.2 ∨ (l.foldl withS s).2 ∈ l)
  | [], s => ⟨Int.le_refl _, Int.le_refl _, fun _ h => (by simp at h), .inl rfl, .inl rfl⟩
  | n :: l, s => by
    obtain ⟨h1, h2, h3, h4, h5⟩ := fold_with l (withS s n)
    rw [List.foldl_cons]
    have e1 : (withS s n).1 = min s.1 n := rfl
    have e2 : (withS s n).2 = max s.2 n := rfl
    rw [e1] at h1 h4
    rw [e2] at h2 h5
    refine ⟨by omega, by omega, fun k hk => ?_, ?_, ?_⟩
    · rcases List.mem_cons.1 hk with rfl | hk
      · omega
      · exact h3 k hk
    · rcases h4 with h4 | h4
      · by_cases h : s.1 ≤ n
        · exact .inl (by omega)
        · exact .inr (by rw [show (l.foldl withS (withS s n)).1 = n by omega]; exact List.mem_cons_self)
      · exact .inr (List.mem_cons_of_mem _ h4)
    · rcases h5 with h5 | h5
      · by_cases h : n ≤ s.2
        · exact .inl (by omega)
        · exact .inr (by rw [show (l.foldl withS (withS s n)).2 = n by omega]; exact List.mem_cons_self)
      · exact .inr (List.mem_cons_of_mem _ h5)
/-- what the span of some results is -/
theorem span_is {l : List Int} (hb : ∀ n ∈ l, 0 ≤ n ∧ n ≤ 1200) (hne : l ≠ []) : (spanS l).1 ∈ l ∧ (spanS l).2 ∈ l ∧ ∀ n ∈ l, (spanS l).1 ≤ n ∧ n ≤ (spanS l).2 := by
  obtain ⟨h1, h2, h3, h4, h5⟩ := fold_with l noneS
  obtain ⟨n, hn⟩ : ∃ n, n ∈ l := by
    cases l with
    | nil => exact absurd rfl hne
    | cons a l => exact ⟨a, List.mem_cons_self⟩
  have hn1 := h3 n hn
  have hn2 := hb n hn
  refine ⟨?_, ?_, h3⟩
  · rcases h4 with h4 | h4
    · have h4 : (l.foldl withS noneS).1 = 1201 := h4
      omega
    · exact h4
  · rcases h5 with h5 | h5
    · have h5 : (l.foldl withS noneS).2 = -1 := h5
      omega
    · exact h5

end Go.Proofs.YthehkgpnnndboaaDoor

namespace Go.Proofs.YthehkgpnnndboaaDoor

/-- papers within their bounds -/
structure GoodP (d : PaperI) : Prop where
  i1 : 1 ≤ d.items.length
  i4 : d.items.length ≤ 4
  it : ∀ x ∈ d.items, (0 ≤ x.w ∧ x.w ≤ 10) ∧ 0 ≤ x.m ∧ x.m ≤ 30
  j4 : d.judges.length ≤ 4
  ju : ∀ j ∈ d.judges, (-3 ≤ j.lo ∧ j.lo ≤ j.hi ∧ j.hi ≤ 3) ∧ (0 ≤ j.err ∧ j.err ≤ 5) ∧ j.marks.length = d.items.length ∧ ∀ m ∈ j.marks, -1 ≤ m ∧ m ≤ 50
  wr : 0 ≤ d.wrong ∧ d.wrong ≤ 2
  gr : d.grades.length ≤ 5
  gb : ∀ g ∈ d.grades, 0 ≤ g ∧ g ≤ 1200

theorem resD_bound : ∀ {l : List ItemI} {ps : List Int}, (∀ x ∈ l, (0 ≤ x.w ∧ x.w ≤ 10) ∧ 0 ≤ x.m ∧ x.m ≤ 30) → fitsI l ps = true → 0 ≤ resD l ps ∧ resD l ps ≤ 300 * l.length
  | [], [], _, _ => ⟨Int.le_refl _, Int.le_refl _⟩
  | [], _ :: _, _, h => by cases h
  | _ :: _, [], _, h => by cases h
  | x :: l, p :: ps, hl, h => by
    unfold fitsI at h
    rw [Bool.and_eq_true, Bool.and_eq_true, decide_eq_true_iff, decide_eq_true_iff] at h
    obtain ⟨⟨h1, h2⟩, h3⟩ := h
    obtain ⟨i1, i2⟩ := resD_bound (fun y hy => hl y (List.mem_cons_of_mem _ hy)) h3
    obtain ⟨⟨w1, w2⟩, m1, m2⟩ := hl x List.mem_cons_self
    have q1 : 0 ≤ p * x.w := Int.mul_nonneg h1 w1
    have q2 : p * x.w ≤ 30 * 10 := Int.mul_le_mul (by omega) w2 w1 (by omega)
    show 0 ≤ p * x.w + resD l ps ∧ p * x.w + resD l ps ≤ 300 * ((l.length + 1 : Nat) : Int)
    omega
namespace GoodP
variable {d : PaperI}
theorem res (G : GoodP d) {ps : List Int} (h : possD d ps = true) : 0 ≤ resD d.items ps ∧ resD d.items ps ≤ 1200 := by
  unfold possD at h
  rw [Bool.and_eq_true] at h
  have h1 := resD_bound G.it h.1
  have h2 := G.i4
  omega
theorem point (G : GoodP d) {ps : List Int} (h : possD d ps = true) {k : Nat} (hk : k < d.items.length) : 0 ≤ ps.getD k 0 ∧ ps.getD k 0 ≤ 30 := by
  unfold possD at h
  rw [Bool.and_eq_true] at h
  have hl := fitsI_len h.1
  have h1 := fitsI_at h.1 (List.getElem?_eq_getElem hk) (List.getElem?_eq_getElem (show k < ps.length by omega))
  have h2 := (G.it _ (List.getElem_mem hk)).2
  rw [List.getD_eq_getElem?_getD, List.getElem?_eq_getElem (show k < ps.length by omega)]
  show 0 ≤ ps[k] ∧ ps[k] ≤ 30
  omega
end GoodP
theorem gradeD_le (gs : List Int) (r : Int) : gradeD gs r ≤ gs.length := List.countP_le_length
theorem gradeD_mono (gs : List Int) {r s : Int} (h : r ≤ s) : gradeD gs r ≤ gradeD gs s := by
  unfold gradeD
  refine List.countP_mono_left fun g _ hg => ?_
  rw [decide_eq_true_iff] at hg ⊢
  omega
/-- the spans of results, of points, of grades -/
def rangeD (d : PaperI) : Int × Int := spanS ((truthsL d).map (resD d.items))
def pointD (d : PaperI) (k : Nat) : Int × Int := spanS ((truthsL d).map fun ps => ps.getD k 0)
def gradesL (d : PaperI) : List Int := (truthsL d).map fun ps => (gradeD d.grades (resD d.items ps) : Int)
def gradeS (d : PaperI) : Int × Int := spanS (gradesL d)
theorem range_is {d : PaperI} (G : GoodP d) (h : truthsL d ≠ []) : (∃ ps, possD d ps = true ∧ resD d.items ps = (rangeD d).1) ∧ (∃ ps, possD d ps = true ∧ resD d.items ps = (rangeD d).2) ∧ ∀ ps, possD d ps = true → (rangeD d).1 ≤ resD d.items ps ∧ resD d.items ps ≤ (rangeD d).2 := by
  have h1 := span_is (l := (truthsL d).map (resD d.items)) (fun n hn => by
    obtain ⟨ps, hp, rfl⟩ := List.mem_map.1 hn
    exact G.res (mem_truths.1 hp)) (by simpa using h)
  obtain ⟨a, b, c⟩ := h1
  obtain ⟨ps, hp, he⟩ := List.mem_map.1 a
  obtain ⟨qs, hq, hf⟩ := List.mem_map.1 b
  exact ⟨⟨ps, mem_truths.1 hp, he⟩, ⟨qs, mem_truths.1 hq, hf⟩, fun rs hr => c _ (List.mem_map.2 ⟨rs, mem_truths.2 hr, rfl⟩)⟩
theorem point_is {d : PaperI} (G : GoodP d) (h : truthsL d ≠ []) {k : Nat} (hk : k < d.items.length) {ps : List Int} (hp : possD d ps = true) : (pointD d k).1 ≤ ps.getD k 0 ∧ ps.getD k 0 ≤ (pointD d k).2 := by
  have h1 := span_is (l := (truthsL d).map fun ps => ps.getD k 0) (fun n hn => by
    obtain ⟨ps, hp, rfl⟩ := List.mem_map.1 hn
    have := G.point (mem_truths.1 hp) hk
    omega) (by simpa using h)
  exact h1.2.2 _ (List.mem_map.2 ⟨ps, mem_truths.2 hp, rfl⟩)
theorem grade_is {d : PaperI} (G : GoodP d) (h : truthsL d ≠ []) : (gradeS d).1 ∈ gradesL d ∧ (gradeS d).2 ∈ gradesL d ∧ ∀ n ∈ gradesL d, (gradeS d).1 ≤ n ∧ n ≤ (gradeS d).2 :=
  span_is (fun n hn => by
    obtain ⟨ps, hp, rfl⟩ := List.mem_map.1 hn
    have h1 := gradeD_le d.grades (resD d.items ps)
    have h2 := G.gr
    omega) (by unfold gradesL; simpa using h)
theorem truths_some {d : PaperI} : truthsL d ≠ [] ↔ ∃ ps, possD d ps = true := by
  constructor
  · intro h
    cases hq : truthsL d with
    | nil => exact absurd hq h
    | cons ps l => exact ⟨ps, mem_truths.1 (by rw [hq]; exact List.mem_cons_self)⟩
  · rintro ⟨ps, hp⟩ h
    have := mem_truths.2 hp
    rw [h] at this
    simp at this
/-- a paper with no fewer possible truths has no narrower range -/
theorem range_sub {d e : PaperI} (G : GoodP d) (G' : GoodP e) (hi : e.items = d.items) (hs : ∀ ps, possD d ps = true → possD e ps = true) (h : truthsL d ≠ []) : truthsL e ≠ [] ∧ (rangeD e).1 ≤ (rangeD d).1 ∧ (rangeD d).2 ≤ (rangeD e).2 := by
  obtain ⟨⟨ps, hp, hp2⟩, ⟨qs, hq, hq2⟩, _⟩ := range_is G h
  have he : truthsL e ≠ [] := truths_some.2 ⟨ps, hs ps hp⟩
  obtain ⟨_, _, h3⟩ := range_is G' he
  rw [hi] at h3
  exact ⟨he, by rw [← hp2]; exact (h3 ps (hs ps hp)).1, by rw [← hq2]; exact (h3 qs (hs qs hq)).2⟩
/-- the least number of wrong judges of any truth -/
def withW (d : PaperI) (k : Int) : PaperI := { d with wrong := k }
def fewTo (d : PaperI) : Nat → Nat → Nat
  | 0, k => k
  | n + 1, k => if truthsL (withW d k) = [] then fewTo d n (k + 1) else k
def fewestD (d : PaperI) : Nat := fewTo d d.judges.length 0
theorem fewTo_le (d : PaperI) : ∀ n k, fewTo d n k ≤ n + k
  | 0, k => by unfold fewTo; omega
  | n + 1, k => by
    unfold fewTo
    split
    · have := fewTo_le d n (k + 1); omega
    · omega
theorem fewTo_least (d : PaperI) : ∀ n k i, k ≤ i → i < fewTo d n k → truthsL (withW d i) = []
  | 0, k, i, h1, h2 => by unfold fewTo at h2; omega
  | n + 1, k, i, h1, h2 => by
    unfold fewTo at h2
    split at h2
    · rename_i hq
      by_cases h3 : k = i
      · subst h3; exact hq
      · exact fewTo_least d n (k + 1) i (by omega) h2
    · omega
theorem fewTo_some (d : PaperI) : ∀ n k, fewTo d n k < n + k → truthsL (withW d (fewTo d n k)) ≠ []
  | 0, k, h => by unfold fewTo at h; omega
  | n + 1, k, h => by
    unfold fewTo at h ⊢
    split
    · rename_i hq
      rw [if_pos hq] at h
      exact fewTo_some d n (k + 1) (by omega)
    · assumption
theorem wrongC_le (l : List JudgeI) (ps : List Int) : wrongC l ps ≤ l.length := List.countP_le_length
/-- some points there always are -/
theorem fits_zero : ∀ {l : List ItemI}, (∀ x ∈ l, 0 ≤ x.m) → fitsI l (List.replicate l.length 0) = true
  | [], _ => rfl
  | x :: l, h => by
    have ih := fits_zero (l := l) fun y hy => h y (List.mem_cons_of_mem _ hy)
    show ((decide ((0 : Int) ≤ 0) && decide (0 ≤ x.m)) && fitsI l (List.replicate l.length 0)) = true
    rw [ih, decide_eq_true (h x List.mem_cons_self)]
    rfl
theorem few_some {d : PaperI} (G : GoodP d) : truthsL (withW d (fewestD d)) ≠ [] := by
  by_cases h : fewestD d < d.judges.length
  · exact fewTo_some d _ _ h
  · have h1 := fewTo_le d d.judges.length 0
    have h2 : fewestD d = d.judges.length := by unfold fewestD at h ⊢; omega
    refine truths_some.2 ⟨List.replicate d.items.length 0, ?_⟩
    unfold possD
    rw [Bool.and_eq_true]
    refine ⟨fits_zero fun x hx => (G.it x hx).2.1, decide_eq_true ?_⟩
    have := wrongC_le d.judges (List.replicate d.items.length 0)
    show ((wrongC d.judges (List.replicate d.items.length 0) : Nat) : Int) ≤ (fewestD d : Int)
    omega
theorem few_least {d : PaperI} {ps : List Int} (h : fitsI d.items ps = true) : fewestD d ≤ wrongC d.judges ps := by
  rcases Nat.lt_or_ge (wrongC d.judges ps) (fewestD d) with g | g
  · have h1 := fewTo_least d _ 0 _ (Nat.zero_le _) g
    have h2 : possD (withW d (wrongC d.judges ps : Nat)) ps = true := by
      unfold possD
      rw [Bool.and_eq_true]
      exact ⟨h, decide_eq_true (Int.le_refl _)⟩
    have := mem_truths.2 h2
    rw [h1] at this
    simp at this
  · exact g
theorem few_less {d : PaperI} {k : Nat} (h : k < fewestD d) : truthsL (withW d k) = [] := fewTo_least d _ 0 _ (Nat.zero_le _) h
/-- one more judge, and judges who can be right more easily -/
theorem wrongC_append (l : List JudgeI) (x : JudgeI) (ps : List Int) : wrongC l ps ≤ wrongC (l ++ [x]) ps := by
  unfold wrongC
  rw [List.countP_append]
  omega
theorem wrongC_set (l : List JudgeI) (k : Nat) (x y : JudgeI) (ps : List Int) (hx : l[k]? = some x) (h : rightJ x ps = true → rightJ y ps = true) : wrongC (l.set k y) ps ≤ wrongC l ps := by
  induction l generalizing k with
  | nil => simp at hx
  | cons z l ih =>
    cases k with
    | zero =>
      obtain rfl : z = x := by simpa using hx
      unfold wrongC
      rw [List.set_cons_zero, List.countP_cons, List.countP_cons]
      cases hz : rightJ z ps with
      | true => rw [h hz]; simp
      | false => cases rightJ y ps <;> simp
    | succ k =>
      have := ih k (by simpa using hx)
      unfold wrongC at this ⊢
      rw [List.set_cons_succ, List.countP_cons, List.countP_cons]
      omega
theorem right_wider {x y : JudgeI} {ps : List Int} (h1 : y.lo ≤ x.lo) (h2 : x.hi ≤ y.hi) (h3 : x.err ≤ y.err) (h4 : y.marks = x.marks) (h : rightJ x ps = true) : rightJ y ps = true := by
  rw [right_iff] at h ⊢
  obtain ⟨b, b1, b2, b3⟩ := h
  refine ⟨b, by omega, by omega, ?_⟩
  unfold fitsB at b3 ⊢
  rw [h4]
  rw [List.all_eq_true] at b3 ⊢
  intro z hz
  have := b3 z hz
  simp only [Bool.or_eq_true, Bool.and_eq_true, decide_eq_true_eq] at this ⊢
  omega

end Go.Proofs.YthehkgpnnndboaaDoor

namespace Go.Proofs.YthehkgpnnndboaaDoor

/-- the results of the truths in which an item has so many points -/
def resAt (d : PaperI) (i : Nat) (x : Int) : Int × Int := spanS (((truthsL d).filter fun ps => decide (ps.getD i 0 = x)).map (resD d.items))
def resultsD (d : PaperI) (i : Nat) : List (Int × Int) := (List.range ((d.items.getD i ⟨0, 0⟩).m + 1).toNat).map fun (k : Nat) => resAt d i (k : Int)
def leftD (l : List (Int × Int)) (err mark : Nat) : Int × Int := ((l.take (min l.length (mark + err + 1))).drop (mark - err)).foldl joinS noneS
def widestTo (l : List (Int × Int)) (err : Nat) : Nat → Int
  | 0 => 0
  | k + 1 => max (widestTo l err k) ((leftD l err k).2 - (leftD l err k).1)
def widestD (l : List (Int × Int)) (err : Nat) : Int := widestTo l err l.length
/-- the item, and its width -/
def nextTo (d : PaperI) (err : Nat) : Nat → Nat × Int
  | 0 => (0, 0)
  | k + 1 => if k = 0 ∨ widestD (resultsD d k) err < (nextTo d err k).2 then (k, widestD (resultsD d k) err) else nextTo d err k
def nextD (d : PaperI) (err : Nat) : Nat × Int := nextTo d err d.items.length
theorem next_is (d : PaperI) (err : Nat) : ∀ k, (nextTo d err (k + 1)).1 < k + 1 ∧ (nextTo d err (k + 1)).2 = widestD (resultsD d (nextTo d err (k + 1)).1) err
  | 0 => by
    rw [nextTo, if_pos (.inl rfl)]
    exact ⟨Nat.zero_lt_one, rfl⟩
  | k + 1 => by
    obtain ⟨h1, h2⟩ := next_is d err k
    rw [nextTo]
    split
    · exact ⟨by show k + 1 < k + 2; omega, rfl⟩
    · exact ⟨by omega, h2⟩
theorem widest_zero (l : List (Int × Int)) (err : Nat) : ∀ k, 0 ≤ widestTo l err k
  | 0 => Int.le_refl _
  | k + 1 => by
    have := widest_zero l err k
    rw [widestTo]
    omega
theorem widest_ge (l : List (Int × Int)) (err : Nat) : ∀ k m, m < k → (leftD l err m).2 - (leftD l err m).1 ≤ widestTo l err k
  | 0, m, h => by omega
  | k + 1, m, h => by
    rw [widestTo]
    by_cases h1 : m = k
    · subst h1; omega
    · have := widest_ge l err k m (by omega); omega
theorem widest_le (l : List (Int × Int)) (err : Nat) (n : Int) (hn : 0 ≤ n) (h : ∀ m, m < l.length → (leftD l err m).2 - (leftD l err m).1 ≤ n) : ∀ k, k ≤ l.length → widestTo l err k ≤ n
  | 0, _ => hn
  | k + 1, hk => by
    have h1 := widest_le l err n hn h k (by omega)
    have h2 := h k (by omega)
    rw [widestTo]
    omega
theorem fold_join : ∀ (l : List (Int × Int)) (s : Int × Int), (l.foldl joinS s).1 ≤ s.1 ∧ s.2 ≤ (l.foldl joinS s).2 ∧ (∀ y ∈ l, (l.foldl joinS s).1 ≤ y.1 ∧ y.2 ≤ (l.foldl joinS s).2) ∧ (∀ r : Int × Int, r.1 ≤ s.1 → s.2 ≤ r.2 → (∀ y ∈ l, r.1 ≤ y.1 ∧ y.2 ≤ r.2) → r.1 ≤ (l.foldl joinS s).1 ∧ (l.foldl joinS s).2 ≤ r.2)
  | [], s => ⟨Int.le_refl _, Int.le_refl _, fun _ h => (by simp at h), fun r h1 h2 _ => ⟨h1, h2⟩⟩
  | x :: l, s => by
    obtain ⟨h1, h2, h3, h4⟩ := fold_join l (joinS s x)
    rw [List.foldl_cons]
    have e1 : (joinS s x).1 = min s.1 x.1 := rfl
    have e2 : (joinS s x).2 = max s.2 x.2 := rfl
    rw [e1] at h1 h4
    rw [e2] at h2 h4
    refine ⟨by omega, by omega, fun y hy => ?_, fun r r1 r2 r3 => ?_⟩
    · rcases List.mem_cons.1 hy with rfl | hy
      · omega
      · exact h3 y hy
    · have := r3 x List.mem_cons_self
      exact h4 r (by omega) (by omega) fun y hy => r3 y (List.mem_cons_of_mem _ hy)
theorem results_len (d : PaperI) (i : Nat) : (resultsD d i).length = ((d.items.getD i ⟨0, 0⟩).m + 1).toNat := by unfold resultsD; rw [List.length_map, List.length_range]
theorem results_at (d : PaperI) (i : Nat) {k : Nat} (hk : k < (resultsD d i).length) : (resultsD d i)[k]? = some (resAt d i (k : Int)) := by
  rw [results_len] at hk
  unfold resultsD
  rw [List.getElem?_map, List.getElem?_range hk]
  rfl
/-- the results in a span of points are within what is left of them -/
theorem left_has (l : List (Int × Int)) (err mark k : Nat) {y : Int × Int} (hy : l[k]? = some y) (h1 : mark - err ≤ k) (h2 : k ≤ mark + err) : (leftD l err mark).1 ≤ y.1 ∧ y.2 ≤ (leftD l err mark).2 := by
  have hk : k < l.length := (List.getElem?_eq_some_iff.1 hy).1
  have hmem : y ∈ (l.take (min l.length (mark + err + 1))).drop (mark - err) := by
    refine List.mem_of_getElem? (i := k - (mark - err)) ?_
    rw [List.getElem?_drop, show mark - err + (k - (mark - err)) = k by omega, List.getElem?_take_of_lt (by omega), hy]
  exact (fold_join _ _).2.2.1 y hmem
theorem at_has {d : PaperI} {i : Nat} {ps : List Int} (h : possD d ps = true) : (resAt d i (ps.getD i 0)).1 ≤ resD d.items ps ∧ resD d.items ps ≤ (resAt d i (ps.getD i 0)).2 :=
  (fold_with _ noneS).2.2.1 _ (List.mem_map.2 ⟨ps, List.mem_filter.2 ⟨mem_truths.2 h, by simp⟩, rfl⟩)
/-- any two truths that a mark leaves have results within the width -/
theorem marked_in {d : PaperI} {i : Nat} (hi : i < d.items.length) {ps qs : List Int} (hp : possD d ps = true) (hq : possD d qs = true) {mark : Int} {err : Nat}
    (h1 : ps.getD i 0 - mark ≤ err) (h2 : mark - ps.getD i 0 ≤ err) (h3 : qs.getD i 0 - mark ≤ err) (h4 : mark - qs.getD i 0 ≤ err) :
    resD d.items ps - resD d.items qs ≤ widestD (resultsD d i) err ∧ resD d.items qs - resD d.items ps ≤ widestD (resultsD d i) err := by
  have hx : d.items.getD i ⟨0, 0⟩ = d.items[i] := by rw [List.getD_eq_getElem?_getD, List.getElem?_eq_getElem hi]; rfl
  have key : ∀ rs, possD d rs = true → 0 ≤ rs.getD i 0 ∧ rs.getD i 0 ≤ (d.items.getD i ⟨0, 0⟩).m := fun rs hr => by
    unfold possD at hr
    rw [Bool.and_eq_true] at hr
    have hl := fitsI_len hr.1
    have h1 := fitsI_at hr.1 (List.getElem?_eq_getElem hi) (List.getElem?_eq_getElem (show i < rs.length by omega))
    rw [List.getD_eq_getElem?_getD, List.getElem?_eq_getElem (show i < rs.length by omega), hx]
    exact h1
  obtain ⟨p1, p2⟩ := key ps hp
  obtain ⟨q1, q2⟩ := key qs hq
  have hl := results_len d i
  obtain ⟨a, ha⟩ : ∃ a : Nat, ps.getD i 0 = (a : Int) := ⟨(ps.getD i 0).toNat, by omega⟩
  obtain ⟨b, hb⟩ : ∃ b : Nat, qs.getD i 0 = (b : Int) := ⟨(qs.getD i 0).toNat, by omega⟩
  obtain ⟨m, hm⟩ : ∃ m : Nat, max 0 (min mark (d.items.getD i ⟨0, 0⟩).m) = (m : Int) := ⟨(max 0 (min mark (d.items.getD i ⟨0, 0⟩).m)).toNat, by omega⟩
  have e1 := at_has (i := i) hp
  have e2 := at_has (i := i) hq
  rw [ha] at e1 h1 h2 p2
  rw [hb] at e2 h3 h4 q2
  have f1 := left_has (resultsD d i) err m a (results_at d i (by omega)) (by omega) (by omega)
  have f2 := left_has (resultsD d i) err m b (results_at d i (by omega)) (by omega) (by omega)
  have f3 := widest_ge (resultsD d i) err (resultsD d i).length m (by omega)
  unfold widestD
  omega
/-- the width is no more than that of the range -/
theorem width_le {d : PaperI} (G : GoodP d) (h : truthsL d ≠ []) (i err : Nat) : 0 ≤ widestD (resultsD d i) err ∧ widestD (resultsD d i) err ≤ (rangeD d).2 - (rangeD d).1 := by
  obtain ⟨⟨ps, hp, hp2⟩, _, h3⟩ := range_is G h
  have hr := h3 ps hp
  have hb := G.res hp
  refine ⟨widest_zero _ _ _, widest_le _ _ _ (by omega) (fun m _ => ?_) _ (Nat.le_refl _)⟩
  have h5 : (rangeD d).1 ≤ 1201 ∧ -1 ≤ (rangeD d).2 := by
    omega
  have h4 := (fold_join (((resultsD d i).take (min (resultsD d i).length (m + err + 1))).drop (m - err)) noneS).2.2.2 (rangeD d) h5.1 h5.2 fun y hy => ?_
  · unfold leftD
    omega
  · have hy := List.mem_of_mem_take (List.mem_of_mem_drop hy)
    unfold resultsD at hy
    obtain ⟨k, _, rfl⟩ := List.mem_map.1 hy
    obtain ⟨_, _, _, g4, g5⟩ := fold_with (((truthsL d).filter fun ps => decide (ps.getD i 0 = (k : Int))).map (resD d.items)) noneS
    have inR : ∀ n, n ∈ ((truthsL d).filter fun ps => decide (ps.getD i 0 = (k : Int))).map (resD d.items) → (rangeD d).1 ≤ n ∧ n ≤ (rangeD d).2 := fun n hn => by
      obtain ⟨rs, hrs, rfl⟩ := List.mem_map.1 hn
      exact h3 rs (mem_truths.1 (List.mem_filter.1 hrs).1)
    constructor
    · rcases g4 with g4 | g4
      · have g4 : (resAt d i (k : Int)).1 = 1201 := g4
        omega
      · exact (inR _ g4).1
    · rcases g5 with g5 | g5
      · have g5 : (resAt d i (k : Int)).2 = -1 := g5
        omega
      · exact (inR _ g5).2
/-- who is wrong in each possible truth -/
def blameL (d : PaperI) : List Nat := (List.range d.judges.length).filter fun j => (truthsL d).all fun ps => !rightJ (d.judges.getD j ⟨0, 0, 0, []⟩) ps
theorem blame_wrong {d : PaperI} {ps : List Int} (h : possD d ps = true) {j : Nat} (hj : j ∈ blameL d) : rightJ (d.judges.getD j ⟨0, 0, 0, []⟩) ps = false := by
  unfold blameL at hj
  rw [List.mem_filter, List.all_eq_true] at hj
  simpa using hj.2 ps (mem_truths.2 h)
/-- ranks by results -/
def rankL (l : List (Int × Int)) (own : Int × Int) : Int := (List.range l.length).countP fun j => decide (own.2 < (l.getD j (0, 0)).1)
def rankH (l : List (Int × Int)) (i : Nat) (own : Int × Int) : Int := (List.range l.length).countP fun j => decide (j ≠ i) && decide (own.1 < (l.getD j (0, 0)).2)
theorem countP_lt {α : Type} {p q : α → Bool} : ∀ {l : List α}, (∀ x ∈ l, p x = true → q x = true) → ∀ {y : α}, y ∈ l → q y = true → p y = false → l.countP p < l.countP q
  | [], _, _, h, _, _ => by simp at h
  | x :: l, h, y, hy, hq, hp => by
    rw [List.countP_cons, List.countP_cons]
    have hm := List.countP_mono_left (fun x hx => h x (List.mem_cons_of_mem _ hx))
    rcases List.mem_cons.1 hy with rfl | hy
    · rw [hq, hp]; simp; omega
    · have ih := countP_lt (fun x hx => h x (List.mem_cons_of_mem _ hx)) hy hq hp
      have h1 := h x List.mem_cons_self
      cases hpx : p x with
      | false => simp; omega
      | true => rw [h1 hpx]; simp; exact ih
/-- the rank of results is between the two ranks of their spans -/
theorem rank_in {l : List (Int × Int)} {rs : List Int} (hin : ∀ j, j < l.length → (l.getD j (0, 0)).1 ≤ rs.getD j 0 ∧ rs.getD j 0 ≤ (l.getD j (0, 0)).2) {i : Nat} (hi : i < l.length) :
    rankL l (l.getD i (0, 0)) ≤ ((List.range l.length).countP fun j => decide (rs.getD i 0 < rs.getD j 0) : Nat) ∧ (((List.range l.length).countP fun j => decide (rs.getD i 0 < rs.getD j 0) : Nat) : Int) ≤ rankH l i (l.getD i (0, 0)) := by
  have hI := hin i hi
  constructor
  · unfold rankL
    refine Int.ofNat_le.2 (List.countP_mono_left fun j hj h => ?_)
    have := hin j (List.mem_range.1 hj)
    rw [decide_eq_true_iff] at h ⊢
    omega
  · unfold rankH
    refine Int.ofNat_le.2 (List.countP_mono_left fun j hj h => ?_)
    have := hin j (List.mem_range.1 hj)
    rw [decide_eq_true_iff] at h
    rw [Bool.and_eq_true, decide_eq_true_iff, decide_eq_true_iff]
    refine ⟨fun q => ?_, by omega⟩
    subst q
    omega
theorem rankH_lt {l : List (Int × Int)} {i : Nat} (hi : i < l.length) (own : Int × Int) : rankH l i own < l.length := by
  unfold rankH
  have h := countP_lt (l := List.range l.length) (p := fun j => decide (j ≠ i) && decide (own.1 < (l.getD j (0, 0)).2)) (q := fun _ => true) (fun _ _ _ => rfl) (List.mem_range.2 hi) rfl (by simp)
  rw [List.countP_true, List.length_range] at h
  omega
/-- whoever is better for sure has better ranks -/
theorem rank_better {l : List (Int × Int)} (hb : ∀ j, j < l.length → (l.getD j (0, 0)).1 ≤ (l.getD j (0, 0)).2) {i k : Nat} (hi : i < l.length) (hk : k < l.length) (h : (l.getD k (0, 0)).2 < (l.getD i (0, 0)).1) :
    rankL l (l.getD i (0, 0)) < rankL l (l.getD k (0, 0)) ∧ rankH l i (l.getD i (0, 0)) < rankH l k (l.getD k (0, 0)) := by
  have bi := hb i hi
  have bk := hb k hk
  constructor
  · unfold rankL
    refine Int.ofNat_lt.2 (countP_lt (fun j hj hq => ?_) (List.mem_range.2 hi) (by rw [decide_eq_true_iff]; omega) (by rw [decide_eq_false_iff_not]; omega))
    rw [decide_eq_true_iff] at hq ⊢
    have := hb j (List.mem_range.1 hj)
    omega
  · unfold rankH
    refine Int.ofNat_lt.2 (countP_lt (fun j hj hq => ?_) (List.mem_range.2 hi) ?_ ?_)
    · rw [Bool.and_eq_true, decide_eq_true_iff, decide_eq_true_iff] at hq ⊢
      refine ⟨fun e => ?_, by omega⟩
      subst e
      omega
    · rw [Bool.and_eq_true, decide_eq_true_iff, decide_eq_true_iff]
      refine ⟨fun e => ?_, by omega⟩
      subst e
      omega
    · simp

end Go.Proofs.YthehkgpnnndboaaDoor

namespace Go.Proofs.YthehkgpnnndboaaDoor

structure BoxI where
  pts : List (Int × Int)
  right : Nat
/-- are points in some spans? -/
def inBox : List (Int × Int) → List Int → Bool
  | [], [] => true
  | s :: l, p :: ps => (decide (s.1 ≤ p) && decide (p ≤ s.2)) && inBox l ps
  | _, _ => false
/-- no span is empty -/
def fullB (l : List (Int × Int)) : Bool := l.all fun s => decide (s.1 ≤ s.2)
def cut1 (err mark bias : Int) (s : Int × Int) : Int × Int := if mark = -1 then s else (max s.1 (mark - bias - err), min s.2 (mark - bias + err))
/-- spans cut to what a judge says with a bias -/
def cutD (err bias : Int) : List (Int × Int) → List Int → Option (List (Int × Int))
  | [], _ => some []
  | _ :: _, [] => none
  | s :: l, m :: ms => if (cut1 err m bias s).1 ≤ (cut1 err m bias s).2 then (cutD err bias l ms).map fun o => cut1 err m bias s :: o else none
def biasL (lo hi : Int) : List Int := (List.range (hi - lo + 1).toNat).map fun (k : Nat) => lo + (k : Int)
def boxesD : List JudgeI → Nat → Int → BoxI → List BoxI
  | [], _, _, b => [b]
  | j :: l, k, n, b => (if 0 < n then boxesD l (k + 1) (n - 1) b else []) ++ (biasL j.lo j.hi).flatMap fun c => match cutD j.err c b.pts j.marks with
    | some s => boxesD l (k + 1) n ⟨s, b.right ||| 2 ^ k⟩
    | none => []
theorem mem_bias {lo hi b : Int} : b ∈ biasL lo hi ↔ lo ≤ b ∧ b ≤ hi := by
  unfold biasL
  rw [List.mem_map]
  constructor
  · rintro ⟨k, hk, rfl⟩
    rw [List.mem_range] at hk
    omega
  · rintro ⟨h1, h2⟩
    exact ⟨(b - lo).toNat, by rw [List.mem_range]; omega, by omega⟩
theorem inBox_len : ∀ {l : List (Int × Int)} {ps : List Int}, inBox l ps = true → ps.length = l.length
  | [], [], _ => rfl
  | [], _ :: _, h => by cases h
  | _ :: _, [], h => by cases h
  | s :: l, p :: ps, h => by
    unfold inBox at h
    rw [Bool.and_eq_true] at h
    rw [List.length_cons, List.length_cons, inBox_len h.2]
/-- what is in the cut spans is what was in the spans and fits the bias -/
theorem cut_in (err bias : Int) : ∀ (l : List (Int × Int)) (ms : List Int), ms.length = l.length → ∀ ps, (∃ o, cutD err bias l ms = some o ∧ inBox o ps = true) ↔ (inBox l ps = true ∧ ((ms.zip ps).all fun z => decide (z.1 = -1) || (decide (-err ≤ z.1 - z.2 - bias) && decide (z.1 - z.2 - bias ≤ err))) = true)
  | [], ms, hl, ps => by
    have hm : ms = [] := List.eq_nil_of_length_eq_zero hl
    subst hm
    cases ps with
    | nil => simp [cutD, inBox]
    | cons p ps => simp [cutD, inBox]
  | s :: l, [], hl, ps => by simp at hl
  | s :: l, m :: ms, hl, [] => by
    constructor
    · rintro ⟨o, h1, h2⟩
      unfold cutD at h1
      split at h1
      · cases hq : cutD err bias l ms with
        | none => rw [hq] at h1; cases h1
        | some q =>
          rw [hq] at h1
          obtain rfl := Option.some.inj h1
          cases h2
      · cases h1
    · rintro ⟨h, _⟩
      cases h
  | s :: l, m :: ms, hl, p :: ps => by
    have ih := cut_in err bias l ms (by simpa using hl) ps
    have hc : ((cut1 err m bias s).1 ≤ p ∧ p ≤ (cut1 err m bias s).2) ↔ ((s.1 ≤ p ∧ p ≤ s.2) ∧ (m = -1 ∨ (-err ≤ m - p - bias ∧ m - p - bias ≤ err))) := by
      unfold cut1
      split
      · rename_i h; simp [h]
      · rename_i h
        dsimp only
        constructor
        · rintro ⟨h1, h2⟩; exact ⟨by omega, .inr (by omega)⟩
        · rintro ⟨⟨h1, h2⟩, h3⟩
          rcases h3 with h3 | h3
          · exact absurd h3 h
          · omega
    have e1 : inBox (s :: l) (p :: ps) = ((decide (s.1 ≤ p) && decide (p ≤ s.2)) && inBox l ps) := rfl
    have e2 : (((m :: ms).zip (p :: ps)).all fun z => decide (z.1 = -1) || (decide (-err ≤ z.1 - z.2 - bias) && decide (z.1 - z.2 - bias ≤ err))) = ((decide (m = -1) || (decide (-err ≤ m - p - bias) && decide (m - p - bias ≤ err))) && ((ms.zip ps).all fun z => decide (z.1 = -1) || (decide (-err ≤ z.1 - z.2 - bias) && decide (z.1 - z.2 - bias ≤ err)))) := rfl
    rw [e1, e2, Bool.and_eq_true, Bool.and_eq_true, Bool.and_eq_true, Bool.or_eq_true, Bool.and_eq_true, decide_eq_true_iff, decide_eq_true_iff, decide_eq_true_iff, decide_eq_true_iff, decide_eq_true_iff]
    constructor
    · rintro ⟨o, h1, h2⟩
      unfold cutD at h1
      split at h1
      · cases hq : cutD err bias l ms with
        | none => rw [hq] at h1; cases h1
        | some q =>
          rw [hq] at h1
          obtain rfl := Option.some.inj h1
          have h2 : ((decide ((cut1 err m bias s).1 ≤ p) && decide (p ≤ (cut1 err m bias s).2)) && inBox q ps) = true := h2
          rw [Bool.and_eq_true, Bool.and_eq_true, decide_eq_true_iff, decide_eq_true_iff] at h2
          have h3 := ih.1 ⟨q, hq, h2.2⟩
          have h4 := hc.1 h2.1
          exact ⟨⟨h4.1, h3.1⟩, h4.2, h3.2⟩
      · cases h1
    · rintro ⟨⟨h1, h2⟩, h3, h4⟩
      obtain ⟨q, hq, hq2⟩ := ih.2 ⟨h2, h4⟩
      have h5 := hc.2 ⟨h1, h3⟩
      refine ⟨cut1 err m bias s :: q, ?_, ?_⟩
      · unfold cutD
        rw [if_pos (by omega), hq]
        rfl
      · show ((decide ((cut1 err m bias s).1 ≤ p) && decide (p ≤ (cut1 err m bias s).2)) && inBox q ps) = true
        rw [hq2, decide_eq_true h5.1, decide_eq_true h5.2]
        rfl
theorem cut_len (err bias : Int) : ∀ {l : List (Int × Int)} {ms : List Int} {o : List (Int × Int)}, cutD err bias l ms = some o → o.length = l.length
  | [], _, o, h => by obtain rfl := Option.some.inj h; rfl
  | s :: l, [], o, h => by cases h
  | s :: l, m :: ms, o, h => by
    unfold cutD at h
    split at h
    · cases hq : cutD err bias l ms with
      | none => rw [hq] at h; cases h
      | some q =>
        rw [hq] at h
        obtain rfl := Option.some.inj h
        rw [List.length_cons, List.length_cons, cut_len err bias hq]
    · cases h
theorem cut_full (err bias : Int) : ∀ {l : List (Int × Int)} {ms : List Int} {o : List (Int × Int)}, cutD err bias l ms = some o → fullB o = true
  | [], _, o, h => by obtain rfl := Option.some.inj h; rfl
  | s :: l, [], o, h => by cases h
  | s :: l, m :: ms, o, h => by
    unfold cutD at h
    split at h
    · rename_i h0
      cases hq : cutD err bias l ms with
      | none => rw [hq] at h; cases h
      | some q =>
        rw [hq] at h
        obtain rfl := Option.some.inj h
        show (decide ((cut1 err m bias s).1 ≤ (cut1 err m bias s).2) && fullB q) = true
        rw [cut_full err bias hq, decide_eq_true h0]
        rfl
    · cases h
/-- which judges, from the k-th on, are right -/
def rightN : List JudgeI → Nat → List Int → Nat
  | [], _, _ => 0
  | j :: l, k, ps => (if rightJ j ps then 2 ^ k else 0) ||| rightN l (k + 1) ps
theorem or_assoc' (a b c : Nat) : a ||| b ||| c = a ||| (b ||| c) := Nat.or_assoc a b c
/-- each box is full, and what is in it is possible; whom it calls right is right -/
theorem boxes_sound (n0 : Nat) : ∀ (l : List JudgeI) (k : Nat) (n : Int) (b c : BoxI), (∀ j ∈ l, j.marks.length = n0) → b.pts.length = n0 → fullB b.pts = true → 0 ≤ n → c ∈ boxesD l k n b →
    c.pts.length = n0 ∧ fullB c.pts = true ∧ ∀ ps, inBox c.pts ps = true → inBox b.pts ps = true ∧ (wrongC l ps : Int) ≤ n ∧ ∀ e, c.right.testBit e = true → b.right.testBit e = true ∨ (rightN l k ps).testBit e = true
  | [], k, n, b, c, _, hb, hf, hn, hc => by
    obtain rfl : c = b := by simpa [boxesD] using hc
    exact ⟨hb, hf, fun ps hp => ⟨hp, hn, fun e he => .inl he⟩⟩
  | j :: l, k, n, b, c, hl, hb, hf, hn, hc => by
    unfold boxesD at hc
    have hl' : ∀ j ∈ l, j.marks.length = n0 := fun x hx => hl x (List.mem_cons_of_mem _ hx)
    have cnt : ∀ ps, wrongC (j :: l) ps = (if rightJ j ps then 0 else 1) + wrongC l ps := fun ps => by
      unfold wrongC
      rw [List.countP_cons]
      cases rightJ j ps <;> simp <;> omega
    rcases List.mem_append.1 hc with hc | hc
    · split at hc
      · rename_i h0
        obtain ⟨h1, h2, h3⟩ := boxes_sound n0 l (k + 1) (n - 1) b c hl' hb hf (by omega) hc
        refine ⟨h1, h2, fun ps hp => ?_⟩
        obtain ⟨a1, a2, a3⟩ := h3 ps hp
        refine ⟨a1, ?_, fun e he => ?_⟩
        · rw [cnt]
          split <;> omega
        · rcases a3 e he with h | h
          · exact .inl h
          · right
            show ((if rightJ j ps then 2 ^ k else 0) ||| rightN l (k + 1) ps).testBit e = true
            rw [Nat.testBit_or, h, Bool.or_true]
      · simp at hc
    · obtain ⟨bias, hbias, hc⟩ := List.mem_flatMap.1 hc
      cases hq : cutD j.err bias b.pts j.marks with
      | none => rw [hq] at hc; simp at hc
      | some s =>
        rw [hq] at hc
        have hc : c ∈ boxesD l (k + 1) n ⟨s, b.right ||| 2 ^ k⟩ := hc
        obtain ⟨h1, h2, h3⟩ := boxes_sound n0 l (k + 1) n ⟨s, b.right ||| 2 ^ k⟩ c hl' ((cut_len _ _ hq).trans hb) (cut_full _ _ hq) hn hc
        refine ⟨h1, h2, fun ps hp => ?_⟩
        obtain ⟨a1, a2, a3⟩ := h3 ps hp
        have hin := (cut_in j.err bias b.pts j.marks ((hl j List.mem_cons_self).trans hb.symm) ps).1 ⟨s, hq, a1⟩
        have hr : rightJ j ps = true := (right_iff j ps).2 ⟨bias, (mem_bias.1 hbias).1, (mem_bias.1 hbias).2, hin.2⟩
        refine ⟨hin.1, ?_, fun e he => ?_⟩
        · rw [cnt, if_pos hr]; omega
        · have hgo : ((if rightJ j ps then 2 ^ k else 0) ||| rightN l (k + 1) ps).testBit e = ((2 ^ k).testBit e || (rightN l (k + 1) ps).testBit e) := by rw [if_pos hr, Nat.testBit_or]
          rcases a3 e he with h | h
          · have h : (b.right ||| 2 ^ k).testBit e = true := h
            rw [Nat.testBit_or, Bool.or_eq_true] at h
            rcases h with h | h
            · exact .inl h
            · right
              show ((if rightJ j ps then 2 ^ k else 0) ||| rightN l (k + 1) ps).testBit e = true
              rw [hgo, h, Bool.true_or]
          · right
            show ((if rightJ j ps then 2 ^ k else 0) ||| rightN l (k + 1) ps).testBit e = true
            rw [hgo, h, Bool.or_true]
/-- what is possible is in a box, which calls right whoever is right -/
theorem boxes_all (n0 : Nat) : ∀ (l : List JudgeI) (k : Nat) (n : Int) (b : BoxI) (ps : List Int), (∀ j ∈ l, j.marks.length = n0) → b.pts.length = n0 → inBox b.pts ps = true → (wrongC l ps : Int) ≤ n →
    ∃ c, c ∈ boxesD l k n b ∧ inBox c.pts ps = true ∧ c.right = b.right ||| rightN l k ps
  | [], k, n, b, ps, _, _, hp, _ => ⟨b, by simp [boxesD], hp, by simp [rightN]⟩
  | j :: l, k, n, b, ps, hl, hb, hp, hw => by
    have hl' : ∀ j ∈ l, j.marks.length = n0 := fun x hx => hl x (List.mem_cons_of_mem _ hx)
    have cnt : wrongC (j :: l) ps = (if rightJ j ps then 0 else 1) + wrongC l ps := by
      unfold wrongC
      rw [List.countP_cons]
      cases rightJ j ps <;> simp <;> omega
    rw [cnt] at hw
    cases hr : rightJ j ps with
    | false =>
      rw [hr, if_neg Bool.false_ne_true] at hw
      obtain ⟨c, h1, h2, h3⟩ := boxes_all n0 l (k + 1) (n - 1) b ps hl' hb hp (by omega)
      refine ⟨c, ?_, h2, ?_⟩
      · unfold boxesD
        rw [if_pos (by omega)]
        exact List.mem_append_left _ h1
      · rw [h3]
        show b.right ||| rightN l (k + 1) ps = b.right ||| ((if rightJ j ps then 2 ^ k else 0) ||| rightN l (k + 1) ps)
        rw [hr, if_neg Bool.false_ne_true, Nat.zero_or]
    | true =>
      rw [hr, if_pos rfl] at hw
      obtain ⟨bias, b1, b2, b3⟩ := (right_iff j ps).1 hr
      obtain ⟨s, hs, hs2⟩ := (cut_in j.err bias b.pts j.marks ((hl j List.mem_cons_self).trans hb.symm) ps).2 ⟨hp, b3⟩
      obtain ⟨c, h1, h2, h3⟩ := boxes_all n0 l (k + 1) n ⟨s, b.right ||| 2 ^ k⟩ ps hl' ((cut_len _ _ hs).trans hb) hs2 (by omega)
      refine ⟨c, ?_, h2, ?_⟩
      · unfold boxesD
        refine List.mem_append_right _ (List.mem_flatMap.2 ⟨bias, mem_bias.2 ⟨b1, b2⟩, ?_⟩)
        rw [hs]
        exact h1
      · rw [h3]
        show b.right ||| 2 ^ k ||| rightN l (k + 1) ps = b.right ||| ((if rightJ j ps then 2 ^ k else 0) ||| rightN l (k + 1) ps)
        rw [hr, if_pos rfl, or_assoc']

end Go.Proofs.YthehkgpnnndboaaDoor

namespace Go.Proofs.YthehkgpnnndboaaDoor

theorem span_eq {l : List Int} {bs : List (Int × Int)} (h1 : ∀ b ∈ bs, (b.1 = 1201 ∨ b.1 ∈ l) ∧ (b.2 = -1 ∨ b.2 ∈ l)) (h2 : ∀ n ∈ l, ∃ b ∈ bs, b.1 ≤ n ∧ n ≤ b.2) : bs.foldl joinS noneS = spanS l := by
  obtain ⟨a1, a2, a3, a4⟩ := fold_join bs noneS
  obtain ⟨b1, b2, b3, b4, b5⟩ := fold_with l noneS
  have e1 : noneS.1 = 1201 := rfl
  have e2 : noneS.2 = -1 := rfl
  have h3 := a4 (spanS l) b1 b2 fun y hy => by
    obtain ⟨q1, q2⟩ := h1 y hy
    constructor
    · rcases q1 with q1 | q1
      · rw [q1]; exact b1
      · exact (b3 _ q1).1
    · rcases q2 with q2 | q2
      · rw [q2]; exact b2
      · exact (b3 _ q2).2
  have h4 : (bs.foldl joinS noneS).1 ≤ (spanS l).1 := by
    rcases b4 with q | q
    · have q : (spanS l).1 = 1201 := q
      omega
    · obtain ⟨b, hb, hb1, hb2⟩ := h2 _ q
      have := (a3 b hb).1
      have q : (spanS l).1 = (l.foldl withS noneS).1 := rfl
      omega
  have h5 : (spanS l).2 ≤ (bs.foldl joinS noneS).2 := by
    rcases b5 with q | q
    · have q : (spanS l).2 = -1 := q
      omega
    · obtain ⟨b, hb, hb1, hb2⟩ := h2 _ q
      have := (a3 b hb).2
      have q : (spanS l).2 = (l.foldl withS noneS).2 := rfl
      omega
  exact Prod.ext (by omega) (by omega)
def startB (d : PaperI) : BoxI := ⟨d.items.map fun x => (0, x.m), 0⟩
def allB (d : PaperI) (n : Int) : List BoxI := boxesD d.judges 0 n (startB d)
theorem start_in : ∀ (l : List ItemI) (ps : List Int), inBox (l.map fun x => ((0 : Int), x.m)) ps = fitsI l ps
  | [], [] => rfl
  | [], _ :: _ => rfl
  | _ :: _, [] => rfl
  | x :: l, p :: ps => by
    show ((decide ((0 : Int) ≤ p) && decide (p ≤ x.m)) && inBox (l.map fun x => ((0 : Int), x.m)) ps) = ((decide ((0 : Int) ≤ p) && decide (p ≤ x.m)) && fitsI l ps)
    rw [start_in l ps]
theorem full_start : ∀ {l : List ItemI}, (∀ x ∈ l, 0 ≤ x.m) → fullB (l.map fun x => ((0 : Int), x.m)) = true
  | [], _ => rfl
  | x :: l, h => by
    show (decide ((0 : Int) ≤ x.m) && fullB (l.map fun x => ((0 : Int), x.m))) = true
    rw [full_start fun y hy => h y (List.mem_cons_of_mem _ hy), decide_eq_true (h x List.mem_cons_self)]
    rfl
theorem lows_in : ∀ {l : List (Int × Int)}, fullB l = true → inBox l (l.map Prod.fst) = true ∧ inBox l (l.map Prod.snd) = true
  | [], _ => ⟨rfl, rfl⟩
  | s :: l, h => by
    unfold fullB at h
    rw [List.all_cons, Bool.and_eq_true, decide_eq_true_iff] at h
    obtain ⟨i1, i2⟩ := lows_in (l := l) h.2
    constructor
    · show ((decide (s.1 ≤ s.1) && decide (s.1 ≤ s.2)) && inBox l (l.map Prod.fst)) = true
      rw [i1, decide_eq_true (Int.le_refl _), decide_eq_true h.1]
      rfl
    · show ((decide (s.1 ≤ s.2) && decide (s.2 ≤ s.2)) && inBox l (l.map Prod.snd)) = true
      rw [i2, decide_eq_true (Int.le_refl _), decide_eq_true h.1]
      rfl
/-- the boxes contain what is possible with so many wrong judges, and nothing else -/
theorem boxes_is {d : PaperI} (G : GoodP d) {n : Int} (hn : 0 ≤ n) (ps : List Int) : possD (withW d n) ps = true ↔ ∃ c ∈ allB d n, inBox c.pts ps = true := by
  have hm : ∀ j ∈ d.judges, j.marks.length = d.items.length := fun j hj => (G.ju j hj).2.2.1
  have hl : (startB d).pts.length = d.items.length := List.length_map _
  unfold possD
  rw [Bool.and_eq_true, decide_eq_true_iff]
  constructor
  · rintro ⟨h1, h2⟩
    obtain ⟨c, c1, c2, _⟩ := boxes_all d.items.length d.judges 0 n (startB d) ps hm hl (by rw [show (startB d).pts = d.items.map fun x => ((0 : Int), x.m) from rfl, start_in]; exact h1) h2
    exact ⟨c, c1, c2⟩
  · rintro ⟨c, c1, c2⟩
    obtain ⟨_, _, h3⟩ := boxes_sound d.items.length d.judges 0 n (startB d) c hm hl (full_start fun x hx => (G.it x hx).2.1) hn c1
    obtain ⟨h4, h5, _⟩ := h3 ps c2
    rw [show (startB d).pts = d.items.map fun x => ((0 : Int), x.m) from rfl, start_in] at h4
    exact ⟨h4, h5⟩
theorem box_full {d : PaperI} (G : GoodP d) {n : Int} (hn : 0 ≤ n) {c : BoxI} (hc : c ∈ allB d n) : c.pts.length = d.items.length ∧ fullB c.pts = true := by
  obtain ⟨h1, h2, _⟩ := boxes_sound d.items.length d.judges 0 n (startB d) c (fun j hj => (G.ju j hj).2.2.1) (List.length_map _) (full_start fun x hx => (G.it x hx).2.1) hn hc
  exact ⟨h1, h2⟩
theorem boxes_none {d : PaperI} (G : GoodP d) {n : Int} (hn : 0 ≤ n) : allB d n = [] ↔ truthsL (withW d n) = [] := by
  constructor
  · intro h
    cases hq : truthsL (withW d n) with
    | nil => rfl
    | cons ps l =>
      obtain ⟨c, hc, _⟩ := (boxes_is G hn ps).1 (mem_truths.1 (by rw [hq]; exact List.mem_cons_self))
      rw [h] at hc
      simp at hc
  · intro h
    cases hq : allB d n with
    | nil => rfl
    | cons c l =>
      have hc : c ∈ allB d n := by rw [hq]; exact List.mem_cons_self
      have h1 := mem_truths.2 ((boxes_is G hn _).2 ⟨c, hc, (lows_in (box_full G hn hc).2).1⟩)
      rw [h] at h1
      simp at h1
theorem res_in : ∀ {l : List ItemI} {s : List (Int × Int)} {ps : List Int}, (∀ x ∈ l, 0 ≤ x.w) → inBox s ps = true → resD l (s.map Prod.fst) ≤ resD l ps ∧ resD l ps ≤ resD l (s.map Prod.snd)
  | [], _, _, _, _ => by simp [resD]
  | _ :: _, [], [], _, _ => by simp [resD]
  | _ :: _, [], _ :: _, _, h => by cases h
  | _ :: _, _ :: _, [], _, h => by cases h
  | x :: l, s :: ss, p :: ps, hl, h => by
    unfold inBox at h
    rw [Bool.and_eq_true, Bool.and_eq_true, decide_eq_true_iff, decide_eq_true_iff] at h
    obtain ⟨i1, i2⟩ := res_in (fun y hy => hl y (List.mem_cons_of_mem _ hy)) h.2
    have hw := hl x List.mem_cons_self
    have q1 := Int.mul_le_mul_of_nonneg_right h.1.1 hw
    have q2 := Int.mul_le_mul_of_nonneg_right h.1.2 hw
    show s.1 * x.w + resD l (ss.map Prod.fst) ≤ p * x.w + resD l ps ∧ p * x.w + resD l ps ≤ s.2 * x.w + resD l (ss.map Prod.snd)
    omega
def boxRes (d : PaperI) (c : BoxI) : Int × Int := (resD d.items (c.pts.map Prod.fst), resD d.items (c.pts.map Prod.snd))
/-- the results in some full boxes that are just some truths -/
theorem res_boxes {d : PaperI} (G : GoodP d) {l : List BoxI} {ts : List (List Int)} (hf : ∀ c ∈ l, fullB c.pts = true) (h : ∀ ps, ps ∈ ts ↔ ∃ c ∈ l, inBox c.pts ps = true) : (l.map (boxRes d)).foldl joinS noneS = spanS (ts.map (resD d.items)) := by
  refine span_eq (fun b hb => ?_) fun n hn => ?_
  · obtain ⟨c, hc, rfl⟩ := List.mem_map.1 hb
    obtain ⟨h1, h2⟩ := lows_in (hf c hc)
    exact ⟨.inr (List.mem_map.2 ⟨_, (h _).2 ⟨c, hc, h1⟩, rfl⟩), .inr (List.mem_map.2 ⟨_, (h _).2 ⟨c, hc, h2⟩, rfl⟩)⟩
  · obtain ⟨ps, hp, rfl⟩ := List.mem_map.1 hn
    obtain ⟨c, hc, hi⟩ := (h ps).1 hp
    exact ⟨_, List.mem_map.2 ⟨c, hc, rfl⟩, res_in (fun x hx => (G.it x hx).1.1) hi⟩
theorem with_own (d : PaperI) : withW d d.wrong = d := rfl
theorem boxes_range {d : PaperI} (G : GoodP d) : ((allB d d.wrong).map (boxRes d)).foldl joinS noneS = rangeD d :=
  res_boxes G (fun c hc => (box_full G G.wr.1 hc).2) fun ps => by rw [mem_truths]; exact boxes_is (n := d.wrong) G G.wr.1 ps
theorem inBox_at : ∀ {l : List (Int × Int)} {ps : List Int}, inBox l ps = true → ∀ {k : Nat}, k < l.length → (l.getD k (0, 0)).1 ≤ ps.getD k 0 ∧ ps.getD k 0 ≤ (l.getD k (0, 0)).2
  | [], _, _, k, hk => by simp at hk
  | _ :: _, [], h, _, _ => by cases h
  | s :: l, p :: ps, h, 0, _ => by
    unfold inBox at h
    rw [Bool.and_eq_true, Bool.and_eq_true, decide_eq_true_iff, decide_eq_true_iff] at h
    exact h.1
  | s :: l, p :: ps, h, k + 1, hk => by
    unfold inBox at h
    rw [Bool.and_eq_true] at h
    exact inBox_at h.2 (by simpa using hk)
theorem getD_map {α β : Type} (f : α → β) (l : List α) (k : Nat) (a : α) : (l.map f).getD k (f a) = f (l.getD k a) := by
  rw [List.getD_eq_getElem?_getD, List.getD_eq_getElem?_getD, List.getElem?_map]
  cases l[k]? <;> rfl
theorem boxes_point {d : PaperI} (G : GoodP d) {k : Nat} (hk : k < d.items.length) : ((allB d d.wrong).map fun c => c.pts.getD k (0, 0)).foldl joinS noneS = pointD d k := by
  refine span_eq (fun b hb => ?_) fun n hn => ?_
  · obtain ⟨c, hc, rfl⟩ := List.mem_map.1 hb
    obtain ⟨h1, h2⟩ := lows_in (box_full G G.wr.1 hc).2
    refine ⟨.inr (List.mem_map.2 ⟨_, mem_truths.2 ((boxes_is (n := d.wrong) G G.wr.1 _).2 ⟨c, hc, h1⟩), ?_⟩), .inr (List.mem_map.2 ⟨_, mem_truths.2 ((boxes_is (n := d.wrong) G G.wr.1 _).2 ⟨c, hc, h2⟩), ?_⟩)⟩
    · exact getD_map Prod.fst c.pts k (0, 0)
    · exact getD_map Prod.snd c.pts k (0, 0)
  · obtain ⟨ps, hp, rfl⟩ := List.mem_map.1 hn
    obtain ⟨c, hc, hi⟩ := (boxes_is (n := d.wrong) G G.wr.1 ps).1 (mem_truths.1 hp)
    exact ⟨_, List.mem_map.2 ⟨c, hc, rfl⟩, inBox_at hi (by rw [(box_full G G.wr.1 hc).1]; exact hk)⟩
/-- the grades of the ends of the range are the ends of the grades -/
theorem grade_range {d : PaperI} (G : GoodP d) (h : truthsL d ≠ []) : ((gradeD d.grades (rangeD d).1 : Int), (gradeD d.grades (rangeD d).2 : Int)) = gradeS d := by
  obtain ⟨⟨ps, hp, hp2⟩, ⟨qs, hq, hq2⟩, h3⟩ := range_is G h
  obtain ⟨g1, g2, g3⟩ := grade_is G h
  have m1 := g3 _ (List.mem_map.2 ⟨ps, mem_truths.2 hp, rfl⟩)
  have m2 := g3 _ (List.mem_map.2 ⟨qs, mem_truths.2 hq, rfl⟩)
  obtain ⟨a, ha, ha2⟩ := List.mem_map.1 g1
  obtain ⟨b, hb, hb2⟩ := List.mem_map.1 g2
  have n1 := gradeD_mono d.grades (h3 a (mem_truths.1 ha)).1
  have n2 := gradeD_mono d.grades (h3 b (mem_truths.1 hb)).2
  rw [hp2] at m1
  rw [hq2] at m2
  exact Prod.ext (by show (gradeD d.grades (rangeD d).1 : Int) = (gradeS d).1; omega) (by show (gradeD d.grades (rangeD d).2 : Int) = (gradeS d).2; omega)
/-- whom no box calls right is wrong in each possible truth -/
def rightsB (l : List BoxI) : Nat := l.foldl (fun r c => r ||| c.right) 0
theorem rights_bit : ∀ (l : List BoxI) (r e : Nat), (l.foldl (fun r c => r ||| c.right) r).testBit e = (r.testBit e || l.any fun c => c.right.testBit e)
  | [], r, e => by simp
  | c :: l, r, e => by
    rw [List.foldl_cons, rights_bit l, Nat.testBit_or, List.any_cons, Bool.or_assoc]
theorem rightN_bit : ∀ (l : List JudgeI) (k : Nat) (ps : List Int) (e : Nat), (rightN l k ps).testBit e = (decide (k ≤ e) && decide (e < k + l.length) && rightJ (l.getD (e - k) ⟨0, 0, 0, []⟩) ps)
  | [], k, ps, e => by
    have : decide (e < k + 0) = !decide (k ≤ e) := by
      by_cases h : k ≤ e
      · rw [decide_eq_true h, decide_eq_false (by omega)]; rfl
      · rw [decide_eq_false h, decide_eq_true (by omega)]; rfl
    show (0 : Nat).testBit e = (decide (k ≤ e) && decide (e < k + 0) && _)
    rw [this, Nat.zero_testBit]
    cases decide (k ≤ e) <;> rfl
  | j :: l, k, ps, e => by
    show ((if rightJ j ps then 2 ^ k else 0) ||| rightN l (k + 1) ps).testBit e = _
    rw [Nat.testBit_or, rightN_bit l (k + 1) ps e, List.length_cons]
    by_cases h1 : e < k
    · have p1 : ((if rightJ j ps then 2 ^ k else 0 : Nat)).testBit e = false := by
        split
        · rw [Nat.testBit_two_pow]; simp; omega
        · rw [Nat.zero_testBit]
      rw [p1, decide_eq_false (show ¬ k + 1 ≤ e by omega), decide_eq_false (show ¬ k ≤ e by omega)]
      rfl
    · by_cases h2 : e = k
      · subst h2
        rw [decide_eq_false (show ¬ e + 1 ≤ e by omega), decide_eq_true (Nat.le_refl e), decide_eq_true (show e < e + (l.length + 1) by omega), Nat.sub_self]
        show ((if rightJ j ps then 2 ^ e else 0 : Nat).testBit e || false) = rightJ j ps
        cases rightJ j ps with
        | true => rw [if_pos rfl, Nat.testBit_two_pow_self]; rfl
        | false => rw [if_neg Bool.false_ne_true, Nat.zero_testBit]; rfl
      · have p1 : ((if rightJ j ps then 2 ^ k else 0 : Nat)).testBit e = false := by
          split
          · rw [Nat.testBit_two_pow]; simp; omega
          · rw [Nat.zero_testBit]
        have e1 : e - k = (e - (k + 1)) + 1 := by omega
        rw [p1, decide_eq_true (show k + 1 ≤ e by omega), decide_eq_true (show k ≤ e by omega), e1, List.getD_cons_succ]
        by_cases h3 : e < k + 1 + l.length
        · rw [decide_eq_true h3, decide_eq_true (show e < k + (l.length + 1) by omega)]; rfl
        · rw [decide_eq_false h3, decide_eq_false (show ¬ e < k + (l.length + 1) by omega)]; rfl
theorem boxes_blame {d : PaperI} (G : GoodP d) : blameL d = (List.range d.judges.length).filter fun j => !(rightsB (allB d d.wrong)).testBit j := by
  unfold blameL
  refine List.filter_congr fun j hj => ?_
  have hj := List.mem_range.1 hj
  unfold rightsB
  rw [rights_bit, Nat.zero_testBit, Bool.false_or]
  have key : (∃ ps, possD d ps = true ∧ rightJ (d.judges.getD j ⟨0, 0, 0, []⟩) ps = true) ↔ (∃ c ∈ allB d d.wrong, c.right.testBit j = true) := by
    constructor
    · rintro ⟨ps, hp, hr⟩
      unfold possD at hp
      rw [Bool.and_eq_true, decide_eq_true_iff] at hp
      obtain ⟨c, c1, _, c3⟩ := boxes_all d.items.length d.judges 0 d.wrong (startB d) ps (fun j hj => (G.ju j hj).2.2.1) (List.length_map _) (by rw [show (startB d).pts = d.items.map fun x => ((0 : Int), x.m) from rfl, start_in]; exact hp.1) hp.2
      refine ⟨c, c1, ?_⟩
      rw [c3, Nat.testBit_or, rightN_bit, Nat.sub_zero, hr, decide_eq_true (Nat.zero_le _), decide_eq_true (show j < 0 + d.judges.length by omega)]
      simp
    · rintro ⟨c, hc, hr⟩
      obtain ⟨_, h2, h3⟩ := boxes_sound d.items.length d.judges 0 d.wrong (startB d) c (fun j hj => (G.ju j hj).2.2.1) (List.length_map _) (full_start fun x hx => (G.it x hx).2.1) G.wr.1 hc
      obtain ⟨_, _, h5⟩ := h3 _ (lows_in h2).1
      refine ⟨_, (boxes_is (n := d.wrong) G G.wr.1 _).2 ⟨c, hc, (lows_in h2).1⟩, ?_⟩
      rcases h5 j hr with q | q
      · have q : (0 : Nat).testBit j = true := q
        rw [Nat.zero_testBit] at q
        cases q
      · rw [rightN_bit, Nat.sub_zero, Bool.and_eq_true] at q
        exact q.2
  cases hx : (allB d d.wrong).any fun c => c.right.testBit j with
  | true =>
    rw [List.any_eq_true] at hx
    obtain ⟨ps, hp, hr⟩ := key.2 hx
    rw [Bool.not_true]
    rw [Bool.eq_false_iff]
    intro q
    rw [List.all_eq_true] at q
    have := q ps (mem_truths.2 hp)
    rw [hr] at this
    cases this
  | false =>
    rw [Bool.not_false, List.all_eq_true]
    intro ps hp
    cases hr : rightJ (d.judges.getD j ⟨0, 0, 0, []⟩) ps with
    | false => rfl
    | true =>
      obtain ⟨c, hc, hc2⟩ := key.1 ⟨ps, mem_truths.1 hp, hr⟩
      rw [List.any_eq_false] at hx
      exact absurd hc2 (hx c hc)

end Go.Proofs.YthehkgpnnndboaaDoor

namespace Go.Proofs.YthehkgpnnndboaaDoor

/-- the boxes that are left if the points of an item are in a span -/
def after1 (i : Nat) (s : Int × Int) (c : BoxI) : Option BoxI :=
  if max (c.pts.getD i (0, 0)).1 s.1 ≤ min (c.pts.getD i (0, 0)).2 s.2 then some ⟨c.pts.set i (max (c.pts.getD i (0, 0)).1 s.1, min (c.pts.getD i (0, 0)).2 s.2), c.right⟩ else none
def afterB (l : List BoxI) (i : Nat) (s : Int × Int) : List BoxI := l.filterMap (after1 i s)
theorem inBox_set : ∀ {l : List (Int × Int)} {i : Nat} {ps : List Int} {a b : Int}, i < l.length → (inBox (l.set i (max (l.getD i (0, 0)).1 a, min (l.getD i (0, 0)).2 b)) ps = true ↔ inBox l ps = true ∧ a ≤ ps.getD i 0 ∧ ps.getD i 0 ≤ b)
  | [], i, _, _, _, h => by simp at h
  | s :: l, i, [], a, b, _ => by
    constructor
    · intro h; cases i <;> cases h
    · rintro ⟨h, _⟩; cases h
  | s :: l, 0, p :: ps, a, b, _ => by
    show ((decide (max s.1 a ≤ p) && decide (p ≤ min s.2 b)) && inBox l ps) = true ↔ ((decide (s.1 ≤ p) && decide (p ≤ s.2)) && inBox l ps) = true ∧ a ≤ p ∧ p ≤ b
    simp only [Bool.and_eq_true, decide_eq_true_eq]
    constructor
    · rintro ⟨⟨h1, h2⟩, h3⟩; exact ⟨⟨⟨by omega, by omega⟩, h3⟩, by omega, by omega⟩
    · rintro ⟨⟨⟨h1, h2⟩, h3⟩, h4, h5⟩; exact ⟨⟨by omega, by omega⟩, h3⟩
  | s :: l, i + 1, p :: ps, a, b, h => by
    have ih := inBox_set (l := l) (i := i) (ps := ps) (a := a) (b := b) (by simpa using h)
    show ((decide (s.1 ≤ p) && decide (p ≤ s.2)) && inBox (l.set i (max (l.getD i (0, 0)).1 a, min (l.getD i (0, 0)).2 b)) ps) = true ↔ ((decide (s.1 ≤ p) && decide (p ≤ s.2)) && inBox l ps) = true ∧ a ≤ ps.getD i 0 ∧ ps.getD i 0 ≤ b
    rw [Bool.and_eq_true (decide (s.1 ≤ p) && decide (p ≤ s.2)), Bool.and_eq_true (decide (s.1 ≤ p) && decide (p ≤ s.2)), ih, and_assoc]
theorem full_set : ∀ {l : List (Int × Int)} {i : Nat} {s : Int × Int}, fullB l = true → s.1 ≤ s.2 → fullB (l.set i s) = true
  | [], _, _, _, _ => rfl
  | x :: l, 0, s, h, hs => by
    unfold fullB at h ⊢
    rw [List.all_cons, Bool.and_eq_true] at h
    rw [List.set_cons_zero, List.all_cons, h.2, decide_eq_true hs]
    rfl
  | x :: l, i + 1, s, h, hs => by
    unfold fullB at h ⊢
    rw [List.all_cons, Bool.and_eq_true] at h
    rw [List.set_cons_succ, List.all_cons, h.1]
    have := full_set (l := l) (i := i) (s := s) h.2 hs
    unfold fullB at this
    rw [this]
    rfl
def tsIn (d : PaperI) (i : Nat) (a b : Int) : List (List Int) := (truthsL d).filter fun ps => decide (a ≤ ps.getD i 0) && decide (ps.getD i 0 ≤ b)
def leftS (d : PaperI) (i : Nat) (a b : Int) : Int × Int := spanS ((tsIn d i a b).map (resD d.items))
theorem after_is {d : PaperI} (G : GoodP d) {i : Nat} (hi : i < d.items.length) (a b : Int) : (∀ c ∈ afterB (allB d d.wrong) i (a, b), fullB c.pts = true) ∧ ∀ ps, ps ∈ tsIn d i a b ↔ ∃ c ∈ afterB (allB d d.wrong) i (a, b), inBox c.pts ps = true := by
  have hbox : ∀ c ∈ allB d d.wrong, c.pts.length = d.items.length ∧ fullB c.pts = true := fun c hc => box_full G G.wr.1 hc
  constructor
  · intro c hc
    obtain ⟨c0, h0, h1⟩ := List.mem_filterMap.1 hc
    unfold after1 at h1
    split at h1
    · rename_i hq
      obtain rfl := Option.some.inj h1
      exact full_set (hbox c0 h0).2 hq
    · cases h1
  · intro ps
    unfold tsIn
    rw [List.mem_filter, mem_truths, Bool.and_eq_true, decide_eq_true_iff, decide_eq_true_iff, show possD d ps = true ↔ _ from boxes_is (n := d.wrong) G G.wr.1 ps]
    constructor
    · rintro ⟨⟨c, hc, hin⟩, h1, h2⟩
      have hl : i < c.pts.length := by rw [(hbox c hc).1]; exact hi
      have h3 := inBox_at hin hl
      refine ⟨⟨c.pts.set i (max (c.pts.getD i (0, 0)).1 a, min (c.pts.getD i (0, 0)).2 b), c.right⟩, List.mem_filterMap.2 ⟨c, hc, ?_⟩, (inBox_set hl).2 ⟨hin, h1, h2⟩⟩
      unfold after1
      rw [if_pos (by dsimp only; omega)]
    · rintro ⟨c, hc, hin⟩
      obtain ⟨c0, h0, h1⟩ := List.mem_filterMap.1 hc
      unfold after1 at h1
      split at h1
      · obtain rfl := Option.some.inj h1
        have := (inBox_set (by rw [(hbox c0 h0).1]; exact hi)).1 hin
        exact ⟨⟨c0, h0, this.1⟩, this.2⟩
      · cases h1
theorem after_span {d : PaperI} (G : GoodP d) {i : Nat} (hi : i < d.items.length) (a b : Int) : ((afterB (allB d d.wrong) i (a, b)).map (boxRes d)).foldl joinS noneS = leftS d i a b :=
  res_boxes G (after_is G hi a b).1 (after_is G hi a b).2
theorem after_none {d : PaperI} (G : GoodP d) {i : Nat} (hi : i < d.items.length) (a b : Int) : afterB (allB d d.wrong) i (a, b) = [] ↔ tsIn d i a b = [] := by
  obtain ⟨h1, h2⟩ := after_is G hi a b
  constructor
  · intro h
    cases hq : tsIn d i a b with
    | nil => rfl
    | cons ps l =>
      obtain ⟨c, hc, _⟩ := (h2 ps).1 (by rw [hq]; exact List.mem_cons_self)
      rw [h] at hc
      simp at hc
  · intro h
    cases hq : afterB (allB d d.wrong) i (a, b) with
    | nil => rfl
    | cons c l =>
      have hc : c ∈ afterB (allB d d.wrong) i (a, b) := by rw [hq]; exact List.mem_cons_self
      have := (h2 _).2 ⟨c, hc, (lows_in (h1 c hc)).1⟩
      rw [h] at this
      simp at this
/-- what the specification goes through: marks from -err on -/
def refTo (d : PaperI) (i : Nat) (err : Int) : Nat → Int
  | 0 => 0
  | k + 1 => if afterB (allB d d.wrong) i (-err + k - err, -err + k + err) = [] then refTo d i err k else max (refTo d i err k) ((leftS d i (-err + k - err) (-err + k + err)).2 - (leftS d i (-err + k - err) (-err + k + err)).1)
def refLeft (d : PaperI) (i : Nat) (err : Int) : Int := refTo d i err ((d.items.getD i ⟨0, 0⟩).m + err + 1 - -err).toNat
theorem leftS_mono {d : PaperI} {i : Nat} {a b a' b' : Int} (h : ∀ ps, possD d ps = true → a ≤ ps.getD i 0 → ps.getD i 0 ≤ b → a' ≤ ps.getD i 0 ∧ ps.getD i 0 ≤ b') (hne : tsIn d i a b ≠ []) (G : GoodP d) : (leftS d i a b).2 - (leftS d i a b).1 ≤ (leftS d i a' b').2 - (leftS d i a' b').1 := by
  obtain ⟨h1, h2, _⟩ := span_is (l := (tsIn d i a b).map (resD d.items)) (fun n hn => by
    obtain ⟨ps, hp, rfl⟩ := List.mem_map.1 hn
    exact G.res (mem_truths.1 (List.mem_filter.1 hp).1)) (by simpa using hne)
  have hsub : ∀ n, n ∈ (tsIn d i a b).map (resD d.items) → n ∈ (tsIn d i a' b').map (resD d.items) := fun n hn => by
    obtain ⟨ps, hp, rfl⟩ := List.mem_map.1 hn
    obtain ⟨p1, p2⟩ := List.mem_filter.1 hp
    rw [Bool.and_eq_true, decide_eq_true_iff, decide_eq_true_iff] at p2
    have := h ps (mem_truths.1 p1) p2.1 p2.2
    exact List.mem_map.2 ⟨ps, List.mem_filter.2 ⟨p1, by rw [Bool.and_eq_true, decide_eq_true_iff, decide_eq_true_iff]; exact this⟩, rfl⟩
  obtain ⟨_, _, h5, _⟩ := fold_with ((tsIn d i a' b').map (resD d.items)) noneS
  have q1 := h5 _ (hsub _ h1)
  have q2 := h5 _ (hsub _ h2)
  show (spanS ((tsIn d i a b).map (resD d.items))).2 - (spanS ((tsIn d i a b).map (resD d.items))).1 ≤ (spanS ((tsIn d i a' b').map (resD d.items))).2 - (spanS ((tsIn d i a' b').map (resD d.items))).1
  have e : ∀ l, spanS l = l.foldl withS noneS := fun _ => rfl
  rw [e ((tsIn d i a' b').map (resD d.items))]
  omega
/-- what a mark leaves by the program's spans -/
theorem left_is {d : PaperI} {i : Nat} (hi : i < d.items.length) {mark err : Nat} (hm : mark < (resultsD d i).length) : leftD (resultsD d i) err mark = leftS d i ((mark : Int) - err) ((mark : Int) + err) := by
  have hl := results_len d i
  have hx : d.items.getD i ⟨0, 0⟩ = d.items[i] := by rw [List.getD_eq_getElem?_getD, List.getElem?_eq_getElem hi]; rfl
  unfold leftD leftS
  refine span_eq (fun y hy => ?_) fun n hn => ?_
  · obtain ⟨k, hk⟩ := List.mem_iff_getElem?.1 hy
    rw [List.getElem?_drop] at hk
    have hkl : mark - err + k < min (resultsD d i).length (mark + err + 1) := by
      have := (List.getElem?_eq_some_iff.1 hk).1
      rw [List.length_take] at this
      omega
    rw [List.getElem?_take_of_lt hkl, results_at d i (by omega)] at hk
    obtain rfl := Option.some.inj hk
    obtain ⟨_, _, _, g4, g5⟩ := fold_with (((truthsL d).filter fun ps => decide (ps.getD i 0 = ((mark - err + k : Nat) : Int))).map (resD d.items)) noneS
    have inT : ∀ n, n ∈ ((truthsL d).filter fun ps => decide (ps.getD i 0 = ((mark - err + k : Nat) : Int))).map (resD d.items) → n ∈ (tsIn d i ((mark : Int) - err) ((mark : Int) + err)).map (resD d.items) := fun n hn => by
      obtain ⟨rs, hrs, rfl⟩ := List.mem_map.1 hn
      obtain ⟨r1, r2⟩ := List.mem_filter.1 hrs
      rw [decide_eq_true_iff] at r2
      exact List.mem_map.2 ⟨rs, List.mem_filter.2 ⟨r1, by rw [Bool.and_eq_true, decide_eq_true_iff, decide_eq_true_iff]; omega⟩, rfl⟩
    constructor
    · rcases g4 with g4 | g4
      · exact .inl g4
      · exact .inr (inT _ g4)
    · rcases g5 with g5 | g5
      · exact .inl g5
      · exact .inr (inT _ g5)
  · obtain ⟨ps, hp, rfl⟩ := List.mem_map.1 hn
    obtain ⟨p1, p2⟩ := List.mem_filter.1 hp
    rw [Bool.and_eq_true, decide_eq_true_iff, decide_eq_true_iff] at p2
    have hp := mem_truths.1 p1
    have hb : 0 ≤ ps.getD i 0 ∧ ps.getD i 0 ≤ (d.items.getD i ⟨0, 0⟩).m := by
      have hr := hp
      unfold possD at hr
      rw [Bool.and_eq_true] at hr
      have hl := fitsI_len hr.1
      have h1 := fitsI_at hr.1 (List.getElem?_eq_getElem hi) (List.getElem?_eq_getElem (show i < ps.length by omega))
      rw [List.getD_eq_getElem?_getD, List.getElem?_eq_getElem (show i < ps.length by omega), hx]
      exact h1
    obtain ⟨a, ha⟩ : ∃ a : Nat, ps.getD i 0 = (a : Int) := ⟨(ps.getD i 0).toNat, by omega⟩
    have e1 := at_has (i := i) hp
    rw [ha] at e1 p2 hb
    refine ⟨_, ?_, e1⟩
    refine List.mem_of_getElem? (i := a - (mark - err)) ?_
    rw [List.getElem?_drop, show mark - err + (a - (mark - err)) = a by omega, List.getElem?_take_of_lt (by omega)]
    exact results_at d i (by omega)
theorem leftS_empty {d : PaperI} {i : Nat} {a b : Int} (h : tsIn d i a b = []) : (leftS d i a b).2 - (leftS d i a b).1 ≤ 0 := by
  unfold leftS
  rw [h]
  show (-1 : Int) - 1201 ≤ 0
  decide
/-- both widths are the same -/
theorem ref_left {d : PaperI} (G : GoodP d) {i : Nat} (hi : i < d.items.length) (err : Nat) : refLeft d i err = widestD (resultsD d i) err := by
  have hl := results_len d i
  have hx : d.items.getD i ⟨0, 0⟩ = d.items[i] := by rw [List.getD_eq_getElem?_getD, List.getElem?_eq_getElem hi]; rfl
  have hm := (G.it _ (List.getElem_mem hi)).2
  rw [← hx] at hm
  have hz : ∀ k, 0 ≤ refTo d i err k := fun k => by
    induction k with
    | zero => exact Int.le_refl _
    | succ k ih =>
      rw [refTo]
      split
      · exact ih
      · omega
  have key : ∀ ps, possD d ps = true → 0 ≤ ps.getD i 0 ∧ ps.getD i 0 ≤ (d.items.getD i ⟨0, 0⟩).m := fun rs hr => by
    unfold possD at hr
    rw [Bool.and_eq_true] at hr
    have hl := fitsI_len hr.1
    have h1 := fitsI_at hr.1 (List.getElem?_eq_getElem hi) (List.getElem?_eq_getElem (show i < rs.length by omega))
    rw [List.getD_eq_getElem?_getD, List.getElem?_eq_getElem (show i < rs.length by omega), hx]
    exact h1
  have hle : ∀ k, refTo d i err k ≤ widestD (resultsD d i) err := fun k => by
    induction k with
    | zero => exact widest_zero _ _ _
    | succ k ih =>
      rw [refTo]
      split
      · exact ih
      · rename_i hne
        have hne := fun q => hne ((after_none G hi _ _).2 q)
        obtain ⟨m, hmm⟩ : ∃ m : Nat, max 0 (min (-(err : Int) + k) (d.items.getD i ⟨0, 0⟩).m) = (m : Int) := ⟨(max 0 (min (-(err : Int) + k) (d.items.getD i ⟨0, 0⟩).m)).toNat, by omega⟩
        have h1 := widest_ge (resultsD d i) err (resultsD d i).length m (by omega)
        rw [left_is hi (by omega)] at h1
        have h2 := leftS_mono (d := d) (i := i) (a := -(err : Int) + k - err) (b := -(err : Int) + k + err) (a' := (m : Int) - err) (b' := (m : Int) + err) (fun ps hp q1 q2 => by
          have := key ps hp
          omega) hne G
        unfold widestD at ih ⊢
        omega
  refine Int.le_antisymm (hle _) ?_
  have hge : ∀ n k : Nat, k < n → tsIn d i (-(err : Int) + k - err) (-(err : Int) + k + err) ≠ [] → (leftS d i (-(err : Int) + k - err) (-(err : Int) + k + err)).2 - (leftS d i (-(err : Int) + k - err) (-(err : Int) + k + err)).1 ≤ refTo d i err n := fun n k hk hne => by
    induction n with
    | zero => omega
    | succ n ih =>
      rw [refTo]
      by_cases h : k = n
      · subst h
        rw [if_neg (fun q => hne ((after_none G hi _ _).1 q))]
        omega
      · have := ih (by omega)
        split
        · exact this
        · omega
  refine widest_le _ _ _ (hz _) (fun m hml => ?_) _ (Nat.le_refl _)
  rw [left_is hi hml]
  by_cases hne : tsIn d i ((m : Int) - err) ((m : Int) + err) = []
  · have := leftS_empty hne
    have := hz ((d.items.getD i ⟨0, 0⟩).m + err + 1 - -(err : Int)).toNat
    omega
  · have h1 := hge ((d.items.getD i ⟨0, 0⟩).m + err + 1 - -(err : Int)).toNat (m + err) (by omega)
    rw [show -(err : Int) + ((m + err : Nat) : Int) - err = (m : Int) - err by omega, show -(err : Int) + ((m + err : Nat) : Int) + err = (m : Int) + err by omega] at h1
    exact h1 hne

end Go.Proofs.YthehkgpnnndboaaDoor

namespace Go.Proofs.YthehkgpnnndboaaDoor

def gradeOf (d : PaperI) (ps : List Int) : Nat := gradeD d.grades (resD d.items ps)
def showD (d : PaperI) (g : Int) : Option (List Int) := (truthsL d).find? fun ps => decide ((gradeOf d ps : Int) = g)
theorem show_some {d : PaperI} {g : Int} {ps : List Int} (h : showD d g = some ps) : possD d ps = true ∧ (gradeOf d ps : Int) = g := by
  unfold showD at h
  have h1 := List.find?_some h
  have h2 := List.mem_of_find?_eq_some h
  rw [decide_eq_true_iff] at h1
  exact ⟨mem_truths.1 h2, h1⟩
theorem show_none {d : PaperI} {g : Int} : showD d g = none ↔ ∀ ps, possD d ps = true → (gradeOf d ps : Int) ≠ g := by
  unfold showD
  rw [List.find?_eq_none]
  constructor
  · intro h ps hp e
    exact h ps (mem_truths.2 hp) (decide_eq_true e)
  · intro h ps hp e
    rw [decide_eq_true_iff] at e
    exact h ps (mem_truths.1 hp) e
theorem grades_mem {d : PaperI} {g : Int} : g ∈ gradesL d ↔ ∃ ps, possD d ps = true ∧ (gradeOf d ps : Int) = g := by
  unfold gradesL
  rw [List.mem_map]
  constructor
  · rintro ⟨ps, hp, e⟩
    exact ⟨ps, mem_truths.1 hp, e⟩
  · rintro ⟨ps, hp, e⟩
    exact ⟨ps, mem_truths.2 hp, e⟩
theorem show_is {d : PaperI} {g : Int} : (showD d g).isSome = true ↔ g ∈ gradesL d := by
  rw [grades_mem]
  constructor
  · intro h
    cases hq : showD d g with
    | none => rw [hq] at h; cases h
    | some ps => exact ⟨ps, show_some hq⟩
  · rintro ⟨ps, hp, e⟩
    cases hq : showD d g with
    | none => exact absurd e (show_none.1 hq ps hp)
    | some qs => rfl
/-- a span hangs on what is in the list alone -/
theorem span_mem {l m : List Int} (h : ∀ n, n ∈ l ↔ n ∈ m) : spanS l = spanS m := by
  have e : l.foldl withS noneS = (l.map fun n => (n, n)).foldl joinS noneS := by rw [List.foldl_map]; rfl
  show l.foldl withS noneS = spanS m
  rw [e]
  refine span_eq (fun b hb => ?_) fun n hn => ?_
  · obtain ⟨n, hn, rfl⟩ := List.mem_map.1 hb
    exact ⟨.inr ((h n).1 hn), .inr ((h n).1 hn)⟩
  · exact ⟨(n, n), List.mem_map.2 ⟨n, (h n).2 hn, rfl⟩, Int.le_refl _, Int.le_refl _⟩
theorem span_snoc (l : List Int) (n : Int) : spanS (l ++ [n]) = withS (spanS l) n := by
  unfold spanS
  rw [List.foldl_append]
  rfl
/-- the last sums -/
theorem res_snoc : ∀ {l : List ItemI} {ps : List Int}, ps.length = l.length → ∀ (x : ItemI) (p : Int), resD (l ++ [x]) (ps ++ [p]) = resD l ps + p * x.w
  | [], [], _, x, p => by show p * x.w + 0 = 0 + p * x.w; omega
  | [], _ :: _, h, _, _ => by simp at h
  | _ :: _, [], h, _, _ => by simp at h
  | y :: l, q :: ps, h, x, p => by
    have ih := res_snoc (l := l) (ps := ps) (by simpa using h) x p
    show q * y.w + resD (l ++ [x]) (ps ++ [p]) = q * y.w + resD l ps + p * x.w
    rw [ih]
    omega
theorem inBox_snoc : ∀ {l : List (Int × Int)} {ps : List Int}, ps.length = l.length → ∀ (s : Int × Int) (p : Int), inBox (l ++ [s]) (ps ++ [p]) = (inBox l ps && (decide (s.1 ≤ p) && decide (p ≤ s.2)))
  | [], [], _, s, p => by show ((decide (s.1 ≤ p) && decide (p ≤ s.2)) && true) = (true && _); rw [Bool.and_true, Bool.true_and]
  | [], _ :: _, h, _, _ => by simp at h
  | _ :: _, [], h, _, _ => by simp at h
  | y :: l, q :: ps, h, s, p => by
    have ih := inBox_snoc (l := l) (ps := ps) (by simpa using h) s p
    show ((decide (y.1 ≤ q) && decide (q ≤ y.2)) && inBox (l ++ [s]) (ps ++ [p])) = (((decide (y.1 ≤ q) && decide (q ≤ y.2)) && inBox l ps) && (decide (s.1 ≤ p) && decide (p ≤ s.2)))
    rw [ih, Bool.and_assoc (decide (y.1 ≤ q) && decide (q ≤ y.2))]
/-- the sums that are reached by points in some spans -/
def ReachS (l : List ItemI) (s : List (Int × Int)) (n : Int) : Prop := ∃ ps, inBox s ps = true ∧ resD l ps = n
theorem reach_nil (n : Int) : ReachS [] [] n ↔ n = 0 := by
  constructor
  · rintro ⟨ps, h, rfl⟩
    cases ps with
    | nil => rfl
    | cons p ps => cases h
  · rintro rfl
    exact ⟨[], rfl, rfl⟩
theorem reach_snoc {l : List ItemI} {s : List (Int × Int)} (h : s.length = l.length) (x : ItemI) (t : Int × Int) (n : Int) : ReachS (l ++ [x]) (s ++ [t]) n ↔ ∃ m p, ReachS l s m ∧ t.1 ≤ p ∧ p ≤ t.2 ∧ n = m + p * x.w := by
  constructor
  · rintro ⟨qs, hq, rfl⟩
    have hl := inBox_len hq
    rw [List.length_append, List.length_singleton] at hl
    obtain ⟨ps, p, rfl⟩ : ∃ ps p, qs = ps ++ [p] := by
      refine ⟨qs.dropLast, qs.getLast (by intro e; subst e; simp at hl), (List.dropLast_concat_getLast _).symm⟩
    rw [List.length_append, List.length_singleton] at hl
    rw [inBox_snoc (by omega), Bool.and_eq_true, Bool.and_eq_true, decide_eq_true_iff, decide_eq_true_iff] at hq
    exact ⟨_, p, ⟨ps, hq.1, rfl⟩, hq.2.1, hq.2.2, res_snoc (by omega) x p⟩
  · rintro ⟨m, p, ⟨ps, hp, rfl⟩, h1, h2, rfl⟩
    have hl := inBox_len hp
    refine ⟨ps ++ [p], ?_, res_snoc (by omega) x p⟩
    rw [inBox_snoc (by omega), hp, decide_eq_true h1, decide_eq_true h2]
    rfl
/-- some box has a truth with the grade just if some truth has it -/
theorem graded_is {d : PaperI} (G : GoodP d) (g : Int) : (∃ c ∈ allB d d.wrong, ∃ n, ReachS d.items c.pts n ∧ (gradeD d.grades n : Int) = g) ↔ (showD d g).isSome = true := by
  rw [show_is, grades_mem]
  constructor
  · rintro ⟨c, hc, n, ⟨ps, hp, rfl⟩, e⟩
    exact ⟨ps, (boxes_is (n := d.wrong) G G.wr.1 ps).2 ⟨c, hc, hp⟩, e⟩
  · rintro ⟨ps, hp, e⟩
    obtain ⟨c, hc, hi⟩ := (boxes_is (n := d.wrong) G G.wr.1 ps).1 hp
    exact ⟨c, hc, _, ⟨ps, hi, rfl⟩, e⟩
/-- the specification's search for the fewest wrong judges -/
theorem fewest_boxes {d : PaperI} (G : GoodP d) : (∀ k : Nat, k < fewestD d → allB d k = []) ∧ allB d (fewestD d : Nat) ≠ [] := by
  constructor
  · intro k hk
    exact (boxes_none G (Int.natCast_nonneg k)).2 (few_less hk)
  · intro h
    exact few_some G ((boxes_none G (Int.natCast_nonneg _)).1 h)

end Go.Proofs.YthehkgpnnndboaaDoor

namespace Go.Proofs.YthehkgpnnndboaaDoor

def moreD (d : PaperI) (j : JudgeI) : PaperI := { d with judges := d.judges ++ [j] }
theorem more_poss {d : PaperI} {j : JudgeI} {ps : List Int} (h : possD (moreD d j) ps = true) : possD d ps = true := by
  unfold possD at h ⊢
  rw [Bool.and_eq_true, decide_eq_true_iff] at h ⊢
  have h1 := wrongC_append d.judges j ps
  have h2 : ((wrongC (d.judges ++ [j]) ps : Nat) : Int) ≤ d.wrong := h.2
  exact ⟨h.1, by omega⟩
theorem more_range {d : PaperI} {j : JudgeI} (G : GoodP d) (G' : GoodP (moreD d j)) (h : truthsL (moreD d j) ≠ []) : truthsL d ≠ [] ∧ (rangeD d).1 ≤ (rangeD (moreD d j)).1 ∧ (rangeD (moreD d j)).2 ≤ (rangeD d).2 :=
  range_sub G' G rfl (fun _ hp => more_poss hp) h
def widen (j : JudgeI) (e w : Int) : JudgeI := ⟨max (-3) (j.lo - w), min 3 (j.hi + w), min 5 (j.err + e), j.marks⟩
def wideD (d : PaperI) (n who e w : Int) : PaperI :=
  { d with wrong := min 2 (d.wrong + n), judges := if 0 ≤ who ∧ who < d.judges.length then d.judges.set who.toNat (widen (d.judges.getD who.toNat ⟨0, 0, 0, []⟩) e w) else d.judges }
theorem good_wide {d : PaperI} (G : GoodP d) {n who e w : Int} (hn : 0 ≤ n) (he : 0 ≤ e) (hw : 0 ≤ w) : GoodP (wideD d n who e w) := by
  have h1 := G.wr
  refine ⟨G.i1, G.i4, G.it, ?_, fun j hj => ?_, ?_, G.gr, G.gb⟩
  · show (if 0 ≤ who ∧ who < d.judges.length then d.judges.set who.toNat _ else d.judges).length ≤ 4
    split
    · rw [List.length_set]; exact G.j4
    · exact G.j4
  · have hj : j ∈ (if 0 ≤ who ∧ who < d.judges.length then d.judges.set who.toNat (widen (d.judges.getD who.toNat ⟨0, 0, 0, []⟩) e w) else d.judges) := hj
    split at hj
    · rename_i hx
      rcases List.mem_or_eq_of_mem_set hj with hj | rfl
      · exact G.ju j hj
      · have hl : who.toNat < d.judges.length := by omega
        have := G.ju _ (List.getElem_mem hl)
        rw [List.getD_eq_getElem?_getD, List.getElem?_eq_getElem hl]
        obtain ⟨⟨a1, a2, a3⟩, ⟨b1, b2⟩, c1, c2⟩ := this
        refine ⟨⟨?_, ?_, ?_⟩, ⟨?_, ?_⟩, c1, c2⟩
        · show (-3 : Int) ≤ max (-3) _; omega
        · show max (-3) ((d.judges[who.toNat]).lo - w) ≤ min 3 ((d.judges[who.toNat]).hi + w); omega
        · show min 3 _ ≤ (3 : Int); omega
        · show 0 ≤ min 5 ((d.judges[who.toNat]).err + e); omega
        · show min 5 _ ≤ (5 : Int); omega
    · exact G.ju j hj
  · show 0 ≤ min 2 (d.wrong + n) ∧ min 2 (d.wrong + n) ≤ 2
    omega
theorem wide_poss {d : PaperI} (G : GoodP d) {n who e w : Int} (hn : 0 ≤ n) (he : 0 ≤ e) (hw : 0 ≤ w) {ps : List Int} (h : possD d ps = true) : possD (wideD d n who e w) ps = true := by
  have h1 := G.wr
  unfold possD at h ⊢
  rw [Bool.and_eq_true, decide_eq_true_iff] at h ⊢
  have h2 : wrongC (wideD d n who e w).judges ps ≤ wrongC d.judges ps := by
    show wrongC (if 0 ≤ who ∧ who < d.judges.length then d.judges.set who.toNat (widen (d.judges.getD who.toNat ⟨0, 0, 0, []⟩) e w) else d.judges) ps ≤ _
    split
    · rename_i hx
      have hl : who.toNat < d.judges.length := by omega
      obtain ⟨⟨a1, _, a3⟩, ⟨_, b2⟩, _⟩ := G.ju _ (List.getElem_mem hl)
      rw [List.getD_eq_getElem?_getD, List.getElem?_eq_getElem hl]
      refine wrongC_set _ _ _ _ ps (List.getElem?_eq_getElem hl) fun hr => right_wider (x := d.judges[who.toNat]) ?_ ?_ ?_ rfl hr
      · show max (-3) ((d.judges[who.toNat]).lo - w) ≤ (d.judges[who.toNat]).lo; omega
      · show (d.judges[who.toNat]).hi ≤ min 3 ((d.judges[who.toNat]).hi + w); omega
      · show (d.judges[who.toNat]).err ≤ min 5 ((d.judges[who.toNat]).err + e); omega
    · exact Nat.le_refl _
  have h3 : (wideD d n who e w).wrong = min 2 (d.wrong + n) := rfl
  have h4 : (wideD d n who e w).items = d.items := rfl
  exact ⟨by rw [h4]; exact h.1, by rw [h3]; omega⟩
theorem wide_range {d : PaperI} (G : GoodP d) {n who e w : Int} (hn : 0 ≤ n) (he : 0 ≤ e) (hw : 0 ≤ w) (h : truthsL d ≠ []) : truthsL (wideD d n who e w) ≠ [] ∧ (rangeD (wideD d n who e w)).1 ≤ (rangeD d).1 ∧ (rangeD d).2 ≤ (rangeD (wideD d n who e w)).2 :=
  range_sub G (good_wide G hn he hw) rfl (fun _ hp => wide_poss G hn he hw hp) h
/-- another number of wrong judges -/
theorem good_with {d : PaperI} (G : GoodP d) {n : Int} (h0 : 0 ≤ n) (h1 : n ≤ 2) : GoodP (withW d n) := ⟨G.i1, G.i4, G.it, G.j4, G.ju, ⟨h0, h1⟩, G.gr, G.gb⟩
theorem few_with {d : PaperI} (G : GoodP d) : truthsL (withW d (fewestD d : Nat)) ≠ [] := few_some G

end Go.Proofs.YthehkgpnnndboaaDoor

namespace Go.Proofs.YthehkgpnnndboaaDoor

/-- has the set s the element e? -/
def hasN (s e : Nat) : Bool := decide (s / 2 ^ e % 2 = 1)
/-- how many of the first eight numbers a set has -/
def popD (s : Nat) : Nat := s % 2 + s / 2 % 2 + s / 4 % 2 + s / 8 % 2 + s / 16 % 2 + s / 32 % 2 + s / 64 % 2 + s / 128 % 2
/-- what of a set is not in another one -/
def diffN (a b : Nat) : Nat := a ^^^ (a &&& b)
/-- is a within b? -/
def subN (a b : Nat) : Bool := decide (diffN a b = 0)

theorem hasN_test (s e : Nat) : hasN s e = s.testBit e := by rw [hasN, Nat.testBit_eq_decide_div_mod_eq]
theorem has_diff (a b e : Nat) : hasN (diffN a b) e = (hasN a e && !hasN b e) := by
  simp only [hasN_test, diffN, Nat.testBit_xor, Nat.testBit_and]
  cases a.testBit e <;> cases b.testBit e <;> rfl
theorem has_and (a b e : Nat) : hasN (a &&& b) e = (hasN a e && hasN b e) := by simp only [hasN_test, Nat.testBit_and]
theorem has_ext {a b : Nat} (h : ∀ e, hasN a e = hasN b e) : a = b := Nat.eq_of_testBit_eq fun i => by simpa only [hasN_test] using h i
theorem has_zero (e : Nat) : hasN 0 e = false := by simp [hasN]
theorem sub_iff {a b : Nat} : subN a b = true ↔ ∀ e, hasN a e = true → hasN b e = true := by
  unfold subN
  rw [decide_eq_true_iff]
  constructor
  · intro h e ha
    have := has_diff a b e
    rw [h, has_zero, ha] at this
    cases hb : hasN b e with
    | true => rfl
    | false => rw [hb] at this; cases this
  · intro h
    refine has_ext fun e => ?_
    rw [has_diff, has_zero]
    cases ha : hasN a e with
    | false => rfl
    | true => rw [h e ha]; rfl
theorem sub_refl (a : Nat) : subN a a = true := sub_iff.2 fun _ h => h
theorem sub_trans {a b c : Nat} (h : subN a b = true) (k : subN b c = true) : subN a c = true := sub_iff.2 fun e he => sub_iff.1 k e (sub_iff.1 h e he)
theorem sub_zero (a : Nat) : subN 0 a = true := sub_iff.2 fun e he => by rw [has_zero] at he; cases he
theorem has_lt {s n e : Nat} (hs : s < 2 ^ n) (h : hasN s e = true) : e < n := by
  rcases Nat.lt_or_ge e n with g | g
  · exact g
  · rw [hasN_test, Nat.testBit_lt_two_pow (Nat.lt_of_lt_of_le hs (Nat.pow_le_pow_right (by omega) g))] at h
    cases h
theorem lt_of_has {s n : Nat} (h : ∀ e, hasN s e = true → e < n) : s < 2 ^ n := by
  refine Nat.lt_pow_two_of_testBit s fun i hi => ?_
  cases hb : s.testBit i with
  | false => rfl
  | true => have := h i (by rw [hasN_test]; exact hb); omega
theorem sub_lt {a b n : Nat} (hb : b < 2 ^ n) (h : subN a b = true) : a < 2 ^ n := lt_of_has fun e he => has_lt hb (sub_iff.1 h e he)
theorem diff_sub (a b : Nat) : subN (diffN a b) a = true := sub_iff.2 fun e he => by rw [has_diff] at he; cases h : hasN a e with
  | true => rfl
  | false => rw [h] at he; cases he
theorem sub_le {a b : Nat} (h : subN a b = true) : a ≤ b := by
  have : a &&& b = a := has_ext fun e => by
    rw [has_and]
    cases ha : hasN a e with
    | false => rfl
    | true => rw [sub_iff.1 h e ha]; rfl
  rw [← this]
  exact Nat.and_le_right

/-! facts on sets of five, by trying all -/
theorem pop_diff : ∀ g < 32, ∀ M < 32, ∀ x < 32, subN x g = true → popD (g &&& M) ≤ popD (diffN g x &&& M) + popD x := by decide +kernel
theorem pop_mono_and : ∀ g < 32, ∀ M < 32, ∀ x < 32, subN x g = true → popD (x &&& M) ≤ popD (g &&& M) := by decide +kernel
theorem pop_pick : ∀ g < 32, ∀ M < 32, ∀ k < 6, ∃ x, x < 32 ∧ subN x g = true ∧ popD x ≤ k ∧ popD (diffN g x &&& M) = popD (g &&& M) - k := by decide +kernel
theorem pop_and_le : ∀ g < 32, ∀ M < 32, popD (g &&& M) ≤ popD g := by decide +kernel
theorem pop_sub : ∀ g < 32, ∀ x < 32, subN x g = true → popD x ≤ popD g := by decide +kernel
theorem pop_le5 : ∀ g < 32, popD g ≤ 5 := by decide +kernel

end Go.Proofs.YthehkgpnnndboaaDoor

namespace Go.Proofs.YthehkgpnnndboaaDoor

def noJ : JudgeI := ⟨0, 0, 0, []⟩
def wrongTo (js : List JudgeI) (ps : List Int) : Nat → Nat
  | 0 => 0
  | k + 1 => if rightJ (js.getD k noJ) ps then wrongTo js ps k else wrongTo js ps k ||| 2 ^ k
def wrongS (js : List JudgeI) (ps : List Int) : Nat := wrongTo js ps js.length
theorem wrongTo_lt (js : List JudgeI) (ps : List Int) : ∀ k, wrongTo js ps k < 2 ^ k
  | 0 => Nat.zero_lt_one
  | k + 1 => by
    have ih := wrongTo_lt js ps k
    have h1 : 2 ^ k < 2 ^ (k + 1) := Nat.pow_lt_pow_right (by omega) (by omega)
    rw [wrongTo]
    split
    · omega
    · exact Nat.or_lt_two_pow (by omega) h1
theorem wrongTo_bit (js : List JudgeI) (ps : List Int) : ∀ k e, (wrongTo js ps k).testBit e = (decide (e < k) && !rightJ (js.getD e noJ) ps)
  | 0, e => by rw [wrongTo, Nat.zero_testBit]; simp
  | k + 1, e => by
    have ih := wrongTo_bit js ps k e
    rw [wrongTo]
    by_cases h : e = k
    · subst h
      rw [decide_eq_true (Nat.lt_succ_self e), Bool.true_and]
      rw [decide_eq_false (Nat.lt_irrefl e), Bool.false_and] at ih
      cases hr : rightJ (js.getD e noJ) ps with
      | true => rw [if_pos rfl, ih]; rfl
      | false => rw [if_neg Bool.false_ne_true, Nat.testBit_or, ih, Nat.testBit_two_pow_self]; rfl
    · have e1 : decide (e < k + 1) = decide (e < k) := by
        by_cases h2 : e < k
        · rw [decide_eq_true h2, decide_eq_true (by omega)]
        · rw [decide_eq_false h2, decide_eq_false (by omega)]
      rw [e1, ← ih]
      split
      · rfl
      · rw [Nat.testBit_or, Nat.testBit_two_pow_of_ne (Ne.symm h), Bool.or_false]
theorem pop_or : ∀ k < 4, ∀ a < 16, a < 2 ^ k → popD (a ||| 2 ^ k) = popD a + 1 := by decide +kernel
theorem wrongTo_pop (js : List JudgeI) (ps : List Int) (h4 : js.length ≤ 4) : ∀ k, k ≤ js.length → popD (wrongTo js ps k) = wrongC (js.take k) ps
  | 0, _ => by
    rw [List.take_zero]
    show popD 0 = 0
    rfl
  | k + 1, hk => by
    have ih := wrongTo_pop js ps h4 k (by omega)
    have hl := wrongTo_lt js ps k
    have h16 : 2 ^ k ≤ 16 := Nat.pow_le_pow_right (n := 2) (by omega) (show k ≤ 4 by omega)
    have ht : js.take (k + 1) = js.take k ++ [js.getD k noJ] := by
      rw [List.take_add_one, List.getD_eq_getElem?_getD, List.getElem?_eq_getElem (show k < js.length by omega)]
      rfl
    have hc : wrongC (js.take (k + 1)) ps = wrongC (js.take k) ps + if rightJ (js.getD k noJ) ps then 0 else 1 := by
      rw [ht]
      unfold wrongC
      rw [List.countP_append]
      rw [List.countP_singleton]
      cases rightJ (js.getD k noJ) ps <;> rfl
    rw [wrongTo, hc, ← ih]
    split
    · rfl
    · exact pop_or k (by omega) _ (by omega) hl
theorem wrongS_pop {js : List JudgeI} (h4 : js.length ≤ 4) (ps : List Int) : popD (wrongS js ps) = wrongC js ps := by
  have h := wrongTo_pop js ps h4 js.length (Nat.le_refl _)
  rw [List.take_length] at h
  exact h
theorem wrongS_lt {js : List JudgeI} (h4 : js.length ≤ 4) (ps : List Int) : wrongS js ps < 16 :=
  Nat.lt_of_lt_of_le (wrongTo_lt js ps js.length) (Nat.pow_le_pow_right (n := 2) (by omega) h4)
/-- who is wrong in each of some truths -/
def blamedTo (js : List JudgeI) (ts : List (List Int)) : Nat := ts.foldl (fun s ps => s &&& wrongS js ps) (2 ^ js.length - 1)
theorem blamed_snoc (js : List JudgeI) (ts : List (List Int)) (ps : List Int) : blamedTo js (ts ++ [ps]) = blamedTo js ts &&& wrongS js ps := by
  unfold blamedTo
  rw [List.foldl_append]
  rfl
theorem fold_and_bit (js : List JudgeI) : ∀ (ts : List (List Int)) (s e : Nat), (ts.foldl (fun s ps => s &&& wrongS js ps) s).testBit e = (s.testBit e && ts.all fun ps => (wrongS js ps).testBit e)
  | [], s, e => by simp
  | ps :: ts, s, e => by
    rw [List.foldl_cons, fold_and_bit js ts, Nat.testBit_and, List.all_cons, Bool.and_assoc]
theorem blamed_bit (js : List JudgeI) (ts : List (List Int)) {e : Nat} (h : e < js.length) : (blamedTo js ts).testBit e = ts.all fun ps => !rightJ (js.getD e noJ) ps := by
  unfold blamedTo
  rw [fold_and_bit, Nat.testBit_two_pow_sub_one, decide_eq_true h, Bool.true_and]
  refine List.all_congr rfl fun ps => ?_
  unfold wrongS
  rw [wrongTo_bit, decide_eq_true h, Bool.true_and]
theorem blamed_lt (js : List JudgeI) (ts : List (List Int)) (h4 : js.length ≤ 4) : blamedTo js ts < 16 := by
  have h1 : 2 ^ js.length ≤ 16 := Nat.pow_le_pow_right (n := 2) (by omega) h4
  have h0 := Nat.two_pow_pos js.length
  unfold blamedTo
  have key : ∀ (ts : List (List Int)) (s : Nat), s < 16 → ts.foldl (fun s ps => s &&& wrongS js ps) s < 16 := fun ts => by
    induction ts with
    | nil => exact fun s h => h
    | cons a ts ih => exact fun s h => ih _ (Nat.lt_of_le_of_lt Nat.and_le_left h)
  exact key ts _ (by omega)
/-- whom Blame names, up to the k-th -/
def blameTo (d : PaperI) : Nat → List Nat
  | 0 => []
  | k + 1 => if (blamedTo d.judges (truthsL d)).testBit k then blameTo d k ++ [k] else blameTo d k
theorem blameTo_is (d : PaperI) : ∀ k, k ≤ d.judges.length → blameTo d k = (List.range k).filter fun j => (truthsL d).all fun ps => !rightJ (d.judges.getD j noJ) ps
  | 0, _ => rfl
  | k + 1, hk => by
    have ih := blameTo_is d k (by omega)
    rw [blameTo, blamed_bit _ _ (show k < d.judges.length by omega), List.range_succ, List.filter_append, ih]
    cases hq : (truthsL d).all fun ps => !rightJ (d.judges.getD k noJ) ps with
    | true => rw [if_pos rfl, List.filter_cons_of_pos (by exact hq), List.filter_nil]
    | false => rw [if_neg Bool.false_ne_true, List.filter_cons_of_neg (by rw [hq]; exact Bool.false_ne_true), List.filter_nil, List.append_nil]
theorem blame_is (d : PaperI) : blameTo d d.judges.length = blameL d := blameTo_is d _ (Nat.le_refl _)
/-- the biases as an array of four spans -/
def biasP (js : List JudgeI) (ps : List Int) : List (Int × Int) := js.map (fun j => spanJ j ps) ++ List.replicate (4 - js.length) (0, 0)
theorem biasP_len {js : List JudgeI} (h4 : js.length ≤ 4) (ps : List Int) : (biasP js ps).length = 4 := by
  unfold biasP
  rw [List.length_append, List.length_map, List.length_replicate]
  omega
theorem biasP_at (js : List JudgeI) (ps : List Int) {k : Nat} (hk : k < js.length) : (biasP js ps)[k]? = some (spanJ (js.getD k noJ) ps) := by
  unfold biasP
  rw [List.getElem?_append_left (by rw [List.length_map]; exact hk), List.getElem?_map, List.getD_eq_getElem?_getD, List.getElem?_eq_getElem hk]
  rfl
/-- the first k of them turned to one more item -/
def biasK (js : List JudgeI) (ps : List Int) (x : Int) (k : Nat) : List (Int × Int) := (js.take k).map (fun j => spanJ j (ps ++ [x])) ++ (js.drop k).map (fun j => spanJ j ps) ++ List.replicate (4 - js.length) (0, 0)
theorem biasK_zero (js : List JudgeI) (ps : List Int) (x : Int) : biasK js ps x 0 = biasP js ps := by unfold biasK biasP; simp
theorem biasK_all (js : List JudgeI) (ps : List Int) (x : Int) : biasK js ps x js.length = biasP js (ps ++ [x]) := by unfold biasK biasP; simp
theorem biasK_at (js : List JudgeI) (ps : List Int) (x : Int) {k : Nat} (hk : k < js.length) : (biasK js ps x k)[k]? = some (spanJ (js.getD k noJ) ps) := by
  unfold biasK
  rw [List.append_assoc, List.getElem?_append_right (by rw [List.length_map, List.length_take]; omega), List.length_map, List.length_take, Nat.min_eq_left (by omega), Nat.sub_self]
  rw [List.getElem?_append_left (by rw [List.length_map, List.length_drop]; omega), List.getElem?_map, List.getElem?_drop, Nat.add_zero, List.getD_eq_getElem?_getD, List.getElem?_eq_getElem hk]
  rfl
theorem biasK_succ (js : List JudgeI) (ps : List Int) (x : Int) {k : Nat} (hk : k < js.length) : biasK js ps x (k + 1) = (biasK js ps x k).set k (spanJ (js.getD k noJ) (ps ++ [x])) := by
  have hd : js.drop k = js.getD k noJ :: js.drop (k + 1) := by
    rw [List.drop_eq_getElem_cons hk, List.getD_eq_getElem?_getD, List.getElem?_eq_getElem hk]
    rfl
  have ht : js.take (k + 1) = js.take k ++ [js.getD k noJ] := by
    rw [List.take_add_one, List.getD_eq_getElem?_getD, List.getElem?_eq_getElem hk]
    rfl
  have hl : ((js.take k).map fun j => spanJ j (ps ++ [x])).length = k := by rw [List.length_map, List.length_take]; omega
  unfold biasK
  rw [hd, ht, List.map_append, List.map_cons, List.append_assoc, List.append_assoc, List.append_assoc, List.set_append_right _ _ (by rw [hl]; exact Nat.le_refl k), hl, Nat.sub_self]
  rfl
theorem biasK_same (js : List JudgeI) (ps : List Int) (x : Int) {k : Nat} (hk : k < js.length) (h : (js.getD k noJ).marks[ps.length]? = some (-1)) : biasK js ps x (k + 1) = biasK js ps x k := by
  rw [biasK_succ js ps x hk, spanJ_snoc _ _ _ _ h]
  have e : narrow1 (js.getD k noJ).err (-1) x (spanJ (js.getD k noJ) ps) = spanJ (js.getD k noJ) ps := by unfold narrow1; rw [if_pos rfl]
  rw [e]
  have h1 := biasK_at js ps x hk
  obtain ⟨h2, h3⟩ := List.getElem?_eq_some_iff.1 h1
  rw [← h3, List.set_getElem_self]

end Go.Proofs.YthehkgpnnndboaaDoor

namespace Go.Proofs.YthehkgpnnndboaaDoor

theorem fits_no {l : List ItemI} {ps : List Int} {k : Nat} {x : ItemI} {p : Int} (hx : l[k]? = some x) (hp : ps[k]? = some p) (h : ¬ (0 ≤ p ∧ p ≤ x.m)) : fitsI l ps = false := by
  cases hq : fitsI l ps with
  | false => rfl
  | true => exact absurd (fitsI_at hq hx hp) h
theorem fits_all : ∀ {l : List ItemI} {ps : List Int}, (∀ (k : Nat) x p, l[k]? = some x → ps[k]? = some p → 0 ≤ p ∧ p ≤ x.m) → fitsI l ps = decide (ps.length = l.length)
  | [], [], _ => rfl
  | [], _ :: _, _ => by rw [decide_eq_false (by simp)]; rfl
  | _ :: _, [], _ => by rw [decide_eq_false (by simp)]; rfl
  | x :: l, p :: ps, h => by
    have ih := fits_all (l := l) (ps := ps) fun k y q hy hq => h (k + 1) y q (by simpa using hy) (by simpa using hq)
    have h0 := h 0 x p rfl rfl
    show ((decide (0 ≤ p) && decide (p ≤ x.m)) && fitsI l ps) = _
    rw [ih, decide_eq_true h0.1, decide_eq_true h0.2, Bool.true_and, Bool.true_and, List.length_cons, List.length_cons]
    by_cases hl : ps.length = l.length
    · rw [decide_eq_true hl, decide_eq_true (by omega)]
    · rw [decide_eq_false hl, decide_eq_false (by omega)]
/-- does a bias fit the first k marks? -/
def fit1 (err b : Int) (z : Int × Int) : Bool := decide (z.1 = -1) || (decide (-err ≤ z.1 - z.2 - b) && decide (z.1 - z.2 - b ≤ err))
def fitsTo (j : JudgeI) (ps : List Int) (b : Int) (k : Nat) : Bool := ((j.marks.zip ps).take k).all (fit1 j.err b)
theorem fitsTo_zero (j : JudgeI) (ps : List Int) (b : Int) : fitsTo j ps b 0 = true := rfl
theorem zip_at {α β : Type} : ∀ {l : List α} {m : List β} {k : Nat} {a : α} {b : β}, l[k]? = some a → m[k]? = some b → (l.zip m)[k]? = some (a, b)
  | [], _, _, _, _, h, _ => by simp at h
  | _ :: _, [], _, _, _, _, h => by simp at h
  | x :: l, y :: m, 0, a, b, h, h' => by
    obtain rfl : x = a := by simpa using h
    obtain rfl : y = b := by simpa using h'
    rfl
  | x :: l, y :: m, k + 1, a, b, h, h' => by
    have ih := zip_at (l := l) (m := m) (k := k) (a := a) (b := b) (by simpa using h) (by simpa using h')
    simpa using ih
theorem fitsTo_succ {j : JudgeI} {ps : List Int} (b : Int) {k : Nat} {m p : Int} (hm : j.marks[k]? = some m) (hp : ps[k]? = some p) : fitsTo j ps b (k + 1) = (fitsTo j ps b k && fit1 j.err b (m, p)) := by
  unfold fitsTo
  have h := zip_at hm hp
  rw [List.take_add_one, h, List.all_append]
  simp
theorem fitsTo_all {j : JudgeI} {ps : List Int} (b : Int) (h : j.marks.length = ps.length) : fitsTo j ps b ps.length = fitsB j ps b := by
  unfold fitsTo fitsB
  rw [List.take_of_length_le (by rw [List.length_zip]; omega)]
  rfl
/-- has a bias from lo on, one of the first n, been found? -/
def foundTo (j : JudgeI) (ps : List Int) (n : Nat) : Prop := ∀ i : Nat, i < n → fitsB j ps (j.lo + i) = false
theorem found_yes {j : JudgeI} {ps : List Int} {b : Int} (h0 : j.lo ≤ b) (h1 : b ≤ j.hi) (h : fitsB j ps b = true) : rightJ j ps = true := (right_iff j ps).2 ⟨b, h0, h1, h⟩
theorem found_no {j : JudgeI} {ps : List Int} {n : Nat} (hn : j.hi < j.lo + n) (h : foundTo j ps n) : rightJ j ps = false := by
  cases hq : rightJ j ps with
  | false => rfl
  | true =>
    obtain ⟨b, b1, b2, b3⟩ := (right_iff j ps).1 hq
    have := h (b - j.lo).toNat (by omega)
    rw [show j.lo + ((b - j.lo).toNat : Int) = b by omega, b3] at this
    cases this
/-- the first k of something -/
theorem wrongC_snoc {js : List JudgeI} {k : Nat} {j : JudgeI} (h : js[k]? = some j) (ps : List Int) : wrongC (js.take (k + 1)) ps = wrongC (js.take k) ps + if rightJ j ps then 0 else 1 := by
  unfold wrongC
  rw [List.take_add_one, h, List.countP_append]
  show _ + List.countP _ [j] = _
  rw [List.countP_singleton]
  cases rightJ j ps <;> rfl
theorem gradeD_snoc {gs : List Int} {k : Nat} {g : Int} (h : gs[k]? = some g) (r : Int) : gradeD (gs.take (k + 1)) r = gradeD (gs.take k) r + if g ≤ r then 1 else 0 := by
  unfold gradeD
  rw [List.take_add_one, h, List.countP_append]
  show _ + List.countP _ [g] = _
  rw [List.countP_singleton]
  by_cases hq : g ≤ r
  · rw [if_pos hq, if_pos (decide_eq_true hq)]
  · rw [if_neg hq, if_neg (by rw [decide_eq_true_iff]; exact hq)]
def resTo (l : List ItemI) (ps : List Int) (k : Nat) : Int := resD (l.take k) (ps.take k)
theorem resTo_zero (l : List ItemI) (ps : List Int) : resTo l ps 0 = 0 := rfl
theorem resTo_succ {l : List ItemI} {ps : List Int} {k : Nat} {x : ItemI} {p : Int} (hx : l[k]? = some x) (hp : ps[k]? = some p) : resTo l ps (k + 1) = resTo l ps k + p * x.w := by
  have h1 := (List.getElem?_eq_some_iff.1 hx).1
  have h2 := (List.getElem?_eq_some_iff.1 hp).1
  unfold resTo
  rw [List.take_add_one, List.take_add_one, hx, hp]
  exact res_snoc (by rw [List.length_take, List.length_take]; omega) x p
theorem resTo_all {l : List ItemI} {ps : List Int} (h : ps.length = l.length) : resTo l ps l.length = resD l ps := by
  unfold resTo
  rw [List.take_length, ← h, List.take_length]
theorem resTo_bound {l : List ItemI} {ps : List Int} (hl : ∀ x ∈ l, (0 ≤ x.w ∧ x.w ≤ 10) ∧ 0 ≤ x.m ∧ x.m ≤ 30) (h : fitsI l ps = true) : ∀ k, k ≤ l.length → 0 ≤ resTo l ps k ∧ resTo l ps k ≤ 300 * k
  | 0, _ => ⟨Int.le_refl _, Int.le_refl _⟩
  | k + 1, hk => by
    obtain ⟨h1, h2⟩ := resTo_bound hl h k (by omega)
    have hlen := fitsI_len h
    have hx : l[k]? = some l[k] := List.getElem?_eq_getElem (by omega)
    have hp : ps[k]? = some (ps[k]'(by omega)) := List.getElem?_eq_getElem (by omega)
    have hf := fitsI_at h hx hp
    obtain ⟨⟨w1, w2⟩, m1, m2⟩ := hl _ (List.getElem_mem (show k < l.length by omega))
    rw [resTo_succ hx hp]
    have q1 : 0 ≤ (ps[k]'(by omega)) * (l[k]).w := Int.mul_nonneg hf.1 w1
    have q2 : (ps[k]'(by omega)) * (l[k]).w ≤ 30 * 10 := Int.mul_le_mul (by omega) w2 w1 (by omega)
    omega
/-- a truth as it lies in an array of four -/
def padT (ps : List Int) : List Int := ps ++ List.replicate (4 - ps.length) 0
theorem padT_len {ps : List Int} (h : ps.length ≤ 4) : (padT ps).length = 4 := by unfold padT; rw [List.length_append, List.length_replicate]; omega
theorem padT_at {ps : List Int} {k : Nat} (h : k < ps.length) : (padT ps)[k]? = some (ps.getD k 0) := by
  unfold padT
  rw [List.getElem?_append_left h, List.getD_eq_getElem?_getD, List.getElem?_eq_getElem h]
  rfl
/-- the truths that begin with some points, the next item's points below k -/
def walkTo (js : List JudgeI) (wrong : Int) (l : List ItemI) (ps : List Int) (k : Nat) : List (List Int) := (List.range k).flatMap fun (c : Nat) => walkD js wrong l (ps ++ [(c : Int)])
theorem walkTo_succ (js : List JudgeI) (wrong : Int) (l : List ItemI) (ps : List Int) (k : Nat) : walkTo js wrong l ps (k + 1) = walkTo js wrong l ps k ++ walkD js wrong l (ps ++ [(k : Int)]) := by
  unfold walkTo
  rw [List.range_succ, List.flatMap_append]
  simp
theorem walkD_cons (js : List JudgeI) (wrong : Int) (x : ItemI) (l : List ItemI) (ps : List Int) : walkD js wrong (x :: l) ps = if (wrongC js ps : Int) ≤ wrong then walkTo js wrong l ps (x.m + 1).toNat else [] := by
  rw [walkD]
  split
  · unfold pointsL walkTo
    rw [List.flatMap_map]
  · rfl

end Go.Proofs.YthehkgpnnndboaaDoor

namespace Go.Proofs.YthehkgpnnndboaaDoor

def exP : PaperI := ⟨[⟨2, 10⟩, ⟨1, 20⟩], [⟨0, 1, 1, [7, 15]⟩, ⟨-1, 0, 0, [6, 13]⟩, ⟨0, 0, 1, [3, 14]⟩], 1, [20, 30]⟩
theorem ex_some : (truthsL exP).isEmpty = false := by decide +kernel
theorem ex_range : rangeD exP = (25, 28) := by decide +kernel
theorem ex_blame : blameL exP = [2] := by decide +kernel
theorem ex_next : nextD exP 1 = (0, 3) := by decide +kernel

end Go.Proofs.YthehkgpnnndboaaDoor

