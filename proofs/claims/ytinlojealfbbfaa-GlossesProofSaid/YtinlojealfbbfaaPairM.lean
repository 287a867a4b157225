/- PairM: in how many frames two authors agree, counted frame by frame. -/
import Derived.Test.YtinlojealfbbfaaAgreeM
import Derived.Test.YtinlojealfbbfaaSpecM
namespace Go.Proofs.Ytinlojealfbbfaa
open Go.RowKit

def sumR (f : Nat → Int) : Nat → Int
  | 0 => 0
  | n + 1 => sumR f n + f n
theorem sumR_congr {f g : Nat → Int} : ∀ {n : Nat}, (∀ k, k < n → f k = g k) → sumR f n = sumR g n
  | 0, _ => rfl
  | n + 1, h => by show sumR f n + f n = sumR g n + g n; rw [sumR_congr fun k hk => h k (by omega), h n (by omega)]
theorem sumR_le {f g : Nat → Int} : ∀ {n : Nat}, (∀ k, k < n → f k ≤ g k) → sumR f n ≤ sumR g n
  | 0, _ => Int.le_refl _
  | n + 1, h => by
    have h1 := sumR_le (f := f) (g := g) (n := n) fun k hk => h k (by omega)
    have h2 := h n (by omega)
    show sumR f n + f n ≤ sumR g n + g n
    omega
theorem sumR_add (f g : Nat → Int) : ∀ n, sumR (fun k => f k + g k) n = sumR f n + sumR g n
  | 0 => rfl
  | n + 1 => by show sumR _ n + (f n + g n) = sumR f n + f n + (sumR g n + g n); rw [sumR_add f g n]; omega
theorem sumR_zero : ∀ n, sumR (fun _ => 0) n = 0
  | 0 => rfl
  | n + 1 => by show sumR _ n + 0 = 0; rw [sumR_zero n]; rfl
theorem sumR_one : ∀ n, sumR (fun _ => 1) n = n
  | 0 => rfl
  | n + 1 => by show sumR _ n + 1 = _; rw [sumR_one n]; omega
theorem sumR_only {f : Nat → Int} {i : Nat} : ∀ {n : Nat}, i < n → (∀ k, k < n → k ≠ i → f k = 0) → sumR f n = f i
  | 0, h, _ => by omega
  | n + 1, h, h0 => by
    show sumR f n + f n = f i
    by_cases e : i = n
    · subst e
      rw [sumR_congr (g := fun _ => 0) fun k hk => h0 k (by omega) (by omega), sumR_zero]
      omega
    · rw [sumR_only (i := i) (by omega) fun k hk hn => h0 k (by omega) hn, h0 n (by omega) (fun e2 => e e2.symm)]
      omega
theorem sumL_nil (f : GlossD → Int) : sumL f [] = 0 := rfl
theorem sumL_cons (f : GlossD → Int) (x : GlossD) (l : List GlossD) : sumL f (x :: l) = f x + sumL f l := by simp [sumL]
theorem sumL_congr {f g : GlossD → Int} {l : List GlossD} (h : ∀ x ∈ l, f x = g x) : sumL f l = sumL g l := by
  induction l with
  | nil => rfl
  | cons a l ih => rw [sumL_cons, sumL_cons, h a (by simp), ih fun x hx => h x (by simp [hx])]
theorem sumL_le {f g : GlossD → Int} {l : List GlossD} (h : ∀ x ∈ l, f x ≤ g x) : sumL f l ≤ sumL g l := by
  induction l with
  | nil => exact Int.le_refl _
  | cons a l ih =>
    rw [sumL_cons, sumL_cons]
    have := h a (by simp)
    have := ih fun x hx => h x (by simp [hx])
    omega
theorem sumL_add (f g : GlossD → Int) (l : List GlossD) : sumL (fun x => f x + g x) l = sumL f l + sumL g l := by
  induction l with
  | nil => rfl
  | cons a l ih => rw [sumL_cons, sumL_cons, sumL_cons, ih]; omega
theorem sumL_zero (l : List GlossD) : sumL (fun _ => 0) l = 0 := by
  induction l with
  | nil => rfl
  | cons a l ih => rw [sumL_cons, ih]; rfl
theorem sumL_swap (f : GlossD → GlossD → Int) (l m : List GlossD) : sumL (fun x => sumL (f x) m) l = sumL (fun y => sumL (fun x => f x y) l) m := by
  induction l with
  | nil => simp only [sumL_nil]; exact (sumL_zero m).symm
  | cons a l ih =>
    rw [sumL_cons, ih, ← sumL_add]
    exact sumL_congr fun y _ => (sumL_cons (fun x => f x y) a l).symm
theorem sumLR_swap (f : GlossD → Nat → Int) (l : List GlossD) (n : Nat) : sumL (fun x => sumR (f x) n) l = sumR (fun k => sumL (fun x => f x k) l) n := by
  induction l with
  | nil => exact (sumR_zero n).symm
  | cons a l ih =>
    rw [sumL_cons, ih, ← sumR_add]
    exact sumR_congr fun k _ => (sumL_cons (fun x => f x k) a l).symm
theorem sumL_filter (f : GlossD → Int) (q : GlossD → Bool) (l : List GlossD) : sumL (fun x => if q x = true then f x else 0) l = sumL f (l.filter q) := by
  induction l with
  | nil => rfl
  | cons a l ih =>
    rw [sumL_cons, ih]
    cases h : q a with
    | true => rw [List.filter_cons_of_pos h, sumL_cons, if_pos rfl]
    | false => rw [List.filter_cons_of_neg (by rw [h]; decide), if_neg (by decide)]; omega

/-- how many numbers from lo on lie below hi -/
theorem sumR_span (lo hi : Int) (h0 : 0 ≤ lo) : ∀ n : Nat, sumR (fun t => if lo ≤ (t : Int) ∧ (t : Int) < hi then 1 else 0) n = max 0 (min hi n - lo)
  | 0 => by show (0 : Int) = _; omega
  | n + 1 => by
    show sumR _ n + (if lo ≤ (n : Int) ∧ (n : Int) < hi then (1 : Int) else 0) = _
    rw [sumR_span lo hi h0 n]
    split <;> omega
/-- the pairs of glosses that hold in a frame of a film -/
def frameH (h : GlossD → GlossD → Int) (a b : Int) (l : List GlossD) (k t : Nat) : Int :=
  sumL (fun x => sumL (fun y => h x y) ((l.filter (inD k t)).filter fun y => decide (y.author = b))) ((l.filter (inD k t)).filter fun x => decide (x.author = a))
def pairH (h : GlossD → GlossD → Int) (a b : Int) (x y : GlossD) : Int := if x.author = a ∧ y.author = b ∧ x.film = y.film then commonD x y * h x y else 0
/-- a gloss within its film -/
def InFilm (f : FilmsD) (x : GlossD) : Prop := 0 ≤ x.film ∧ x.film < f.frames.length ∧ 0 ≤ x.frm ∧ x.frm < x.to ∧ x.to ≤ frameOf f x.film
theorem sumR_mul (f : Nat → Int) (c : Int) : ∀ n, sumR (fun k => f k * c) n = sumR f n * c
  | 0 => by show (0 : Int) = 0 * c; rw [Int.zero_mul]
  | n + 1 => by show sumR _ n + f n * c = (sumR f n + f n) * c; rw [sumR_mul f c n, Int.add_mul]
theorem pair_split (f : FilmsD) (h : GlossD → GlossD → Int) (a b : Int) {x y : GlossD} (hx : InFilm f x) (hy : InFilm f y) :
    pairH h a b x y = sumR (fun k => sumR (fun t => if (inD k t x && decide (x.author = a)) = true then (if (inD k t y && decide (y.author = b)) = true then h x y else 0) else 0) (frameOf f k).toNat) f.frames.length := by
  obtain ⟨x1, x2, x3, x4, x5⟩ := hx
  obtain ⟨y1, y2, y3, y4, y5⟩ := hy
  have hI : ∀ (k t : Nat), (if (inD k t x && decide (x.author = a)) = true then (if (inD k t y && decide (y.author = b)) = true then h x y else 0) else 0) = if x.film = (k : Int) ∧ y.film = (k : Int) ∧ x.author = a ∧ y.author = b then (if max x.frm y.frm ≤ (t : Int) ∧ (t : Int) < min x.to y.to then 1 else 0) * h x y else 0 := by
    intro k t
    simp only [inD, Bool.and_eq_true, decide_eq_true_eq]
    by_cases c : x.film = (k : Int) ∧ y.film = (k : Int) ∧ x.author = a ∧ y.author = b
    · rw [if_pos c]
      by_cases c1 : max x.frm y.frm ≤ (t : Int) ∧ (t : Int) < min x.to y.to
      · rw [if_pos c1, if_pos (by omega), if_pos (by omega), Int.one_mul]
      · rw [if_neg c1, Int.zero_mul]
        split
        · rw [if_neg (by omega)]
        · rfl
    · rw [if_neg c]
      split
      · rw [if_neg (by omega)]
      · rfl
  unfold pairH
  by_cases c : x.author = a ∧ y.author = b ∧ x.film = y.film
  · rw [if_pos c]
    obtain ⟨m, hm⟩ := Int.eq_ofNat_of_zero_le x1
    rw [sumR_only (i := m) (by omega) fun k hk hne => by
      rw [sumR_congr (g := fun _ => 0) fun t _ => by rw [hI, if_neg (by omega)], sumR_zero]]
    rw [sumR_congr fun t _ => by rw [hI, if_pos (by omega)], sumR_mul, sumR_span _ _ (by omega)]
    have hfl : ((frameOf f x.film).toNat : Int) = frameOf f x.film := by omega
    rw [← hm, hfl, ← c.2.2] at *
    unfold commonD
    congr 1
    omega
  · rw [if_neg c]
    rw [sumR_congr (g := fun _ => 0) fun k _ => by
      rw [sumR_congr (g := fun _ => 0) fun t _ => by rw [hI, if_neg (by omega)], sumR_zero], sumR_zero]
theorem pairs_frames (f : FilmsD) (h : GlossD → GlossD → Int) (a b : Int) {l : List GlossD} (hl : ∀ x ∈ l, InFilm f x) :
    sumL (fun x => sumL (pairH h a b x) l) l = sumR (fun k => sumR (fun t => frameH h a b l k t) (frameOf f k).toNat) f.frames.length := by
  rw [sumL_congr (g := fun x => sumR (fun k => sumR (fun t => sumL (fun y => if (inD k t x && decide (x.author = a)) = true then (if (inD k t y && decide (y.author = b)) = true then h x y else 0) else 0) l) (frameOf f k).toNat) f.frames.length) fun x hx => by
    rw [sumL_congr fun y hy => pair_split f h a b (hl x hx) (hl y hy), sumLR_swap]
    exact sumR_congr fun k _ => sumLR_swap _ _ _]
  rw [sumLR_swap]
  refine sumR_congr fun k _ => ?_
  rw [sumLR_swap]
  refine sumR_congr fun t _ => ?_
  unfold frameH
  rw [List.filter_filter, List.filter_filter, ← sumL_filter]
  refine sumL_congr fun x _ => ?_
  rw [Bool.and_comm]
  split
  · rw [← sumL_filter]
    exact sumL_congr fun y _ => by rw [Bool.and_comm]
  · exact sumL_zero l
/-- each author has at most one gloss that holds in a frame -/
def OnceG (l : List GlossD) : Prop := l.Nodup ∧ ∀ x ∈ l, ∀ y ∈ l, x.author = y.author → x.film = y.film → x ≠ y → commonD x y = 0
theorem once_frame {l : List GlossD} (h : OnceG l) (fm fr a : Int) : ((l.filter (inD fm fr)).filter fun x => decide (x.author = a)) = [] ∨ ∃ x, ((l.filter (inD fm fr)).filter fun x => decide (x.author = a)) = [x] ∧ (l.filter (inD fm fr)).find? (fun x => decide (x.author = a)) = some x ∧ x ∈ l ∧ inD fm fr x = true ∧ x.author = a := by
  have hf : (l.filter (inD fm fr)).find? (fun x => decide (x.author = a)) = ((l.filter (inD fm fr)).filter fun x => decide (x.author = a)).head? := (List.head?_filter ..).symm
  have hn := (h.1.filter (inD fm fr)).filter fun x => decide (x.author = a)
  have hm : ∀ x ∈ ((l.filter (inD fm fr)).filter fun x => decide (x.author = a)), x ∈ l ∧ inD fm fr x = true ∧ x.author = a := fun x hx => by
    simp only [List.mem_filter, decide_eq_true_eq] at hx
    exact ⟨hx.1.1, hx.1.2, hx.2⟩
  generalize ((l.filter (inD fm fr)).filter fun x => decide (x.author = a)) = L at hf hn hm ⊢
  match L, hf, hn, hm with
  | [], _, _, _ => exact .inl rfl
  | [x], hf, _, hm => exact .inr ⟨x, rfl, hf, hm x (by simp)⟩
  | x :: y :: L, _, hn, hm =>
    exfalso
    obtain ⟨p1, p2, p3⟩ := hm x (by simp)
    obtain ⟨q1, q2, q3⟩ := hm y (by simp)
    have hne : x ≠ y := fun e => (List.nodup_cons.1 hn).1 (by rw [e]; simp)
    simp only [inD, Bool.and_eq_true, decide_eq_true_eq] at p2 q2
    have := h.2 x p1 y q1 (by omega) (by omega) hne
    unfold commonD at this
    omega
theorem frameH_le {h : GlossD → GlossD → Int} {l : List GlossD} (hl : OnceG l) (h0 : ∀ x y, 0 ≤ h x y ∧ h x y ≤ 1) (a b : Int) (k t : Nat) : 0 ≤ frameH h a b l k t ∧ frameH h a b l k t ≤ 1 := by
  unfold frameH
  rcases once_frame hl k t a with e | ⟨x, e, _⟩ <;> rcases once_frame hl k t b with e2 | ⟨y, e2, _⟩ <;> rw [e, e2] <;> simp only [sumL_nil, sumL_cons]
  · omega
  · omega
  · omega
  · have := h0 x y; omega
def oneH (_ _ : GlossD) : Int := 1
def bitsH (x y : GlossD) : Int := if x.signs.toNat &&& y.signs.toNat ≠ 0 then 1 else 0
theorem both_frames {f : FilmsD} {a b : Int} {l : List GlossD} (hl : ∀ x ∈ l, InFilm f x) : bothD a b l = sumR (fun k => sumR (fun t => frameH oneH a b l k t) (frameOf f k).toNat) f.frames.length := by
  rw [← pairs_frames f oneH a b hl]
  refine sumL_congr fun x _ => sumL_congr fun y _ => ?_
  unfold pairB pairH oneH
  rw [Int.mul_one]
theorem same_frames {f : FilmsD} {a b : Int} {l : List GlossD} (hl : ∀ x ∈ l, InFilm f x) : sameD a b l = sumR (fun k => sumR (fun t => frameH bitsH a b l k t) (frameOf f k).toNat) f.frames.length := by
  rw [← pairs_frames f bitsH a b hl]
  refine sumL_congr fun x _ => sumL_congr fun y _ => ?_
  unfold pairS pairH bitsH
  by_cases c : x.author = a ∧ y.author = b ∧ x.film = y.film
  · rw [if_pos c]
    by_cases c2 : x.signs.toNat &&& y.signs.toNat ≠ 0
    · rw [if_pos ⟨c, c2⟩, if_pos c2, Int.mul_one]
    · rw [if_neg (fun q => c2 q.2), if_neg c2, Int.mul_zero]
  · rw [if_neg (fun q => c q.1), if_neg c]
theorem pairB_comm (a b : Int) (x y : GlossD) : pairB a b x y = pairB b a y x := by
  unfold pairB commonD
  by_cases c : x.author = a ∧ y.author = b ∧ x.film = y.film
  · rw [if_pos c, if_pos ⟨c.2.1, c.1, c.2.2.symm⟩]; omega
  · rw [if_neg c, if_neg (fun q => c ⟨q.2.1, q.1, q.2.2.symm⟩)]
theorem pairS_comm (a b : Int) (x y : GlossD) : pairS a b x y = pairS b a y x := by
  unfold pairS commonD
  rw [Nat.and_comm]
  by_cases c : (x.author = a ∧ y.author = b ∧ x.film = y.film) ∧ y.signs.toNat &&& x.signs.toNat ≠ 0
  · rw [if_pos c, if_pos ⟨⟨c.1.2.1, c.1.1, c.1.2.2.symm⟩, c.2⟩]; omega
  · rw [if_neg c, if_neg (fun q => c ⟨⟨q.1.2.1, q.1.1, q.1.2.2.symm⟩, q.2⟩)]
theorem both_comm (a b : Int) (l : List GlossD) : bothD a b l = bothD b a l := by
  have h := sumL_swap (fun x y => pairB a b x y) l l
  refine h.trans (sumL_congr fun y _ => sumL_congr fun x _ => pairB_comm a b x y)
theorem same_comm (a b : Int) (l : List GlossD) : sameD a b l = sameD b a l := by
  have h := sumL_swap (fun x y => pairS a b x y) l l
  refine h.trans (sumL_congr fun y _ => sumL_congr fun x _ => pairS_comm a b x y)
/-- how many frames there are -/
def framesTo (f : FilmsD) (n : Nat) : Int := sumR (fun k => frameOf f k) n
theorem pair_bounds {f : FilmsD} (hok : okFilms f = true) {a b : Int} {l : List GlossD} (hl : ∀ x ∈ l, InFilm f x) (ho : OnceG l) : 0 ≤ sameD a b l ∧ sameD a b l ≤ bothD a b l ∧ bothD a b l ≤ framesTo f f.frames.length := by
  refine ⟨?_, ?_, ?_⟩
  · rw [same_frames hl, ← sumR_zero f.frames.length]
    refine sumR_le fun k _ => ?_
    rw [← sumR_zero (frameOf f k).toNat]
    exact sumR_le fun t _ => (frameH_le ho (fun x y => by unfold bitsH; split <;> omega) a b k t).1
  · unfold sameD bothD
    refine sumL_le fun x hx => sumL_le fun y hy => ?_
    unfold pairS pairB
    have h0 : 0 ≤ commonD x y := by unfold commonD; omega
    split
    · rename_i h; rw [if_pos h.1]; exact Int.le_refl _
    · split
      · exact h0
      · exact Int.le_refl _
  · rw [both_frames hl]
    unfold framesTo
    refine sumR_le fun k hk => ?_
    have hf := frameOf_at hok (k := (k : Int)) (by omega) (by omega)
    have h1 : sumR (fun t => frameH oneH a b l k t) (frameOf f k).toNat ≤ sumR (fun _ => 1) (frameOf f k).toNat := sumR_le fun t _ => (frameH_le ho (fun x y => by unfold oneH; omega) a b k t).2
    rw [sumR_one] at h1
    omega
theorem held_once {ms all : List GlossD} (hs : SortedG ms all) (hc : ¬ Clash ms) : OnceG (all.filter (holdsD all)) := by
  have hnd : all.Nodup := hs.1.imp fun {x y} h e => by
    subst e
    rw [cmp_cmpG.self] at h
    omega
  refine ⟨hnd.filter _, fun x hx y hy ha hf hne => ?_⟩
  obtain ⟨hx1, hx2⟩ := List.mem_filter.1 hx
  obtain ⟨hy1, hy2⟩ := List.mem_filter.1 hy
  simp only [holdsD, Bool.and_eq_true, Bool.not_eq_true', List.any_eq_false] at hx2 hy2
  have h1 := hx2.2 y hy1
  have h2 := hy2.2 x hx1
  have h3 : x.stamp ≠ y.stamp := fun e => hc ⟨x, (hs.2 x).1 hx1, y, (hs.2 y).1 hy1, ha, e, hne⟩
  simp only [replD, Bool.and_eq_true, decide_eq_true_eq] at h1 h2
  have h4 : commonD x y = commonD y x := by unfold commonD; omega
  have h5 : 0 ≤ commonD x y := by unfold commonD; omega
  omega

end Go.Proofs.Ytinlojealfbbfaa
