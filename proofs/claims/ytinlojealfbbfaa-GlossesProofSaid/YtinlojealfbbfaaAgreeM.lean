/- AgreeM: in how many frames two authors agree, as the program counts it. -/
import Derived.Test.YtinlojealfbbfaaRds
namespace Go.Proofs.Ytinlojealfbbfaa
open Go.RowKit

def pairB (a b : Int) (x y : GlossD) : Int := if x.author = a ∧ y.author = b ∧ x.film = y.film then commonD x y else 0
def pairS (a b : Int) (x y : GlossD) : Int := if (x.author = a ∧ y.author = b ∧ x.film = y.film) ∧ x.signs.toNat &&& y.signs.toNat ≠ 0 then commonD x y else 0
def sumL (f : GlossD → Int) (l : List GlossD) : Int := (l.map f).sum
theorem sumL_snoc (f : GlossD → Int) (l : List GlossD) (x : GlossD) : sumL f (l ++ [x]) = sumL f l + f x := by simp [sumL]
theorem sumL_bound {f : GlossD → Int} {l : List GlossD} {B : Int} (h : ∀ x ∈ l, 0 ≤ f x ∧ f x ≤ B) : 0 ≤ sumL f l ∧ sumL f l ≤ l.length * B := by
  induction l with
  | nil => simp [sumL]
  | cons a t ih =>
    have h1 := h a (List.mem_cons_self ..)
    have h2 := ih fun x hx => h x (List.mem_cons_of_mem _ hx)
    have e : sumL f (a :: t) = f a + sumL f t := by simp [sumL]
    rw [e, List.length_cons]
    have e2 : ((t.length + 1 : Nat) : Int) * B = t.length * B + B := by rw [Int.natCast_add, Int.add_mul]; simp
    rw [e2]
    omega
theorem common_bound {x y : GlossD} (hx : SmallG x) (hy : SmallG y) : 0 ≤ commonD x y ∧ commonD x y ≤ 1000000 := by
  unfold commonD SmallG at *
  omega
theorem pairB_bound (a b : Int) {x y : GlossD} (hx : SmallG x) (hy : SmallG y) : 0 ≤ pairB a b x y ∧ pairB a b x y ≤ 1000000 := by
  unfold pairB
  split
  · exact common_bound hx hy
  · omega
theorem pairS_bound (a b : Int) {x y : GlossD} (hx : SmallG x) (hy : SmallG y) : 0 ≤ pairS a b x y ∧ pairS a b x y ≤ 1000000 := by
  unfold pairS
  split
  · exact common_bound hx hy
  · omega
def rowB (a b : Int) (l : List GlossD) (x : GlossD) : Int := sumL (pairB a b x) l
def rowS (a b : Int) (l : List GlossD) (x : GlossD) : Int := sumL (pairS a b x) l
/-- in how many frames both hold, and in how many they agree -/
def bothD (a b : Int) (l : List GlossD) : Int := sumL (rowB a b l) l
def sameD (a b : Int) (l : List GlossD) : Int := sumL (rowS a b l) l
theorem rowB_bound (a b : Int) {l : List GlossD} (h : ∀ y ∈ l, SmallG y) (h9 : l.length ≤ 1000) {x : GlossD} (hx : SmallG x) : 0 ≤ rowB a b l x ∧ rowB a b l x ≤ 1000000000 := by
  have := sumL_bound (f := pairB a b x) (B := 1000000) fun y hy => pairB_bound a b hx (h y hy)
  unfold rowB
  omega
theorem rowS_bound (a b : Int) {l : List GlossD} (h : ∀ y ∈ l, SmallG y) (h9 : l.length ≤ 1000) {x : GlossD} (hx : SmallG x) : 0 ≤ rowS a b l x ∧ rowS a b l x ≤ 1000000000 := by
  have := sumL_bound (f := pairS a b x) (B := 1000000) fun y hy => pairS_bound a b hx (h y hy)
  unfold rowS
  omega
/-- bounds of what is summed so far -/
theorem upto_bound {F : GlossD → Int} {f : GlossD → Int} {l : List GlossD} (h9 : l.length ≤ 1000) (hF : ∀ x ∈ l, 0 ≤ F x ∧ F x ≤ 1000000000) (hf : ∀ y ∈ l, 0 ≤ f y ∧ f y ≤ 1000000) (i j : Nat) : 0 ≤ sumL F (l.take i) + sumL f (l.take j) ∧ sumL F (l.take i) + sumL f (l.take j) ≤ 1001000000000 := by
  have h1 := sumL_bound (l := l.take i) (f := F) (B := 1000000000) fun x hx => hF x (List.mem_of_mem_take hx)
  have h2 := sumL_bound (l := l.take j) (f := f) (B := 1000000) fun x hx => hf x (List.mem_of_mem_take hx)
  have h3 : (l.take i).length ≤ 1000 := by rw [List.length_take]; omega
  have h4 : (l.take j).length ≤ 1000 := by rw [List.length_take]; omega
  omega
theorem pairB_no {a b : Int} {x y : GlossD} (h : ¬ (x.author = a ∧ y.author = b ∧ x.film = y.film)) : pairB a b x y = 0 ∧ pairS a b x y = 0 := ⟨if_neg h, if_neg fun q => h q.1⟩
theorem pairB_yes {a b : Int} {x y : GlossD} (h : x.author = a ∧ y.author = b ∧ x.film = y.film) : pairB a b x y = commonD x y := if_pos h
theorem pairS_yes {a b : Int} {x y : GlossD} (h : x.author = a ∧ y.author = b ∧ x.film = y.film) (h2 : x.signs.toNat &&& y.signs.toNat ≠ 0) : pairS a b x y = commonD x y := if_pos ⟨h, h2⟩
theorem pairS_not {a b : Int} {x y : GlossD} (h2 : x.signs.toNat &&& y.signs.toNat = 0) : pairS a b x y = 0 := if_neg fun q => q.2 h2
def authorsOK (a b : Int) : Bool := inB a 0 7 && (inB b 0 7 && !decide (a = b))
def agreeErr (f : FilmsD) (l : List GlossD) (a b : Int) : Int := if readErr f [l] = 0 then (if authorsOK a b = true then 0 else 1) else readErr f [l]
theorem bits_both {x y : GlossD} (hx : SignsOK x) (hy : SignsOK y) : bits .and .i64 x.signs y.signs = ((x.signs.toNat &&& y.signs.toNat : Nat) : Int) := by
  obtain ⟨h0, h1⟩ := hy
  obtain ⟨m, hm⟩ := Int.eq_ofNat_of_zero_le h0
  rw [hm] at h1 ⊢
  rw [Int.toNat_natCast]
  exact bits_hit hx (by omega)

end Go.Proofs.Ytinlojealfbbfaa
