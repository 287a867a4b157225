/- ChainF: what is true of the searches at every symmetric relation of at most five languages; written by wip/tools/chainf3.py. -/
import Derived.Test.YticeekkfdkfcgaaChainN
import Derived.Test.YticeekkfdkfcgaaChainK
namespace Go.Proofs.Yticeekkfdkfcgaa

theorem okAll_at {n lo m k : Nat} (h : okAll n lo m = true) (hk : k < m) : okG n (lo + k) = true := List.all_eq_true.1 h k (List.mem_range.2 hk)
theorem graph5 (g : Nat) (hg : g < 1024) : okG 5 g = true := by
  have hq : (0 ≤ g ∧ g < 32) ∨ (32 ≤ g ∧ g < 64) ∨ (64 ≤ g ∧ g < 96) ∨ (96 ≤ g ∧ g < 128) ∨ (128 ≤ g ∧ g < 160) ∨ (160 ≤ g ∧ g < 192) ∨ (192 ≤ g ∧ g < 224) ∨ (224 ≤ g ∧ g < 256) ∨ (256 ≤ g ∧ g < 288) ∨ (288 ≤ g ∧ g < 320) ∨ (320 ≤ g ∧ g < 352) ∨ (352 ≤ g ∧ g < 384) ∨ (384 ≤ g ∧ g < 416) ∨ (416 ≤ g ∧ g < 448) ∨ (448 ≤ g ∧ g < 480) ∨ (480 ≤ g ∧ g < 512) ∨ (512 ≤ g ∧ g < 544) ∨ (544 ≤ g ∧ g < 576) ∨ (576 ≤ g ∧ g < 608) ∨ (608 ≤ g ∧ g < 640) ∨ (640 ≤ g ∧ g < 672) ∨ (672 ≤ g ∧ g < 704) ∨ (704 ≤ g ∧ g < 736) ∨ (736 ≤ g ∧ g < 768) ∨ (768 ≤ g ∧ g < 800) ∨ (800 ≤ g ∧ g < 832) ∨ (832 ≤ g ∧ g < 864) ∨ (864 ≤ g ∧ g < 896) ∨ (896 ≤ g ∧ g < 928) ∨ (928 ≤ g ∧ g < 960) ∨ (960 ≤ g ∧ g < 992) ∨ (992 ≤ g ∧ g < 1024) := by omega
  rcases hq with h | h | h | h | h | h | h | h | h | h | h | h | h | h | h | h | h | h | h | h | h | h | h | h | h | h | h | h | h | h | h | h
  · have h := okAll_at ok5_0 (k := g - 0) (by omega)
    rwa [show 0 + (g - 0) = g by omega] at h
  · have h := okAll_at ok5_1 (k := g - 32) (by omega)
    rwa [show 32 + (g - 32) = g by omega] at h
  · have h := okAll_at ok5_2 (k := g - 64) (by omega)
    rwa [show 64 + (g - 64) = g by omega] at h
  · have h := okAll_at ok5_3 (k := g - 96) (by omega)
    rwa [show 96 + (g - 96) = g by omega] at h
  · have h := okAll_at ok5_4 (k := g - 128) (by omega)
    rwa [show 128 + (g - 128) = g by omega] at h
  · have h := okAll_at ok5_5 (k := g - 160) (by omega)
    rwa [show 160 + (g - 160) = g by omega] at h
  · have h := okAll_at ok5_6 (k := g - 192) (by omega)
    rwa [show 192 + (g - 192) = g by omega] at h
  · have h := okAll_at ok5_7 (k := g - 224) (by omega)
    rwa [show 224 + (g - 224) = g by omega] at h
  · have h := okAll_at ok5_8 (k := g - 256) (by omega)
    rwa [show 256 + (g - 256) = g by omega] at h
  · have h := okAll_at ok5_9 (k := g - 288) (by omega)
    rwa [show 288 + (g - 288) = g by omega] at h
  · have h := okAll_at ok5_10 (k := g - 320) (by omega)
    rwa [show 320 + (g - 320) = g by omega] at h
  · have h := okAll_at ok5_11 (k := g - 352) (by omega)
    rwa [show 352 + (g - 352) = g by omega] at h
  · have h := okAll_at ok5_12 (k := g - 384) (by omega)
    rwa [show 384 + (g - 384) = g by omega] at h
  · have h := okAll_at ok5_13 (k := g - 416) (by omega)
    rwa [show 416 + (g - 416) = g by omega] at h
  · have h := okAll_at ok5_14 (k := g - 448) (by omega)
    rwa [show 448 + (g - 448) = g by omega] at h
  · have h := okAll_at ok5_15 (k := g - 480) (by omega)
    rwa [show 480 + (g - 480) = g by omega] at h
  · have h := okAll_at ok5_16 (k := g - 512) (by omega)
    rwa [show 512 + (g - 512) = g by omega] at h
  · have h := okAll_at ok5_17 (k := g - 544) (by omega)
    rwa [show 544 + (g - 544) = g by omega] at h
  · have h := okAll_at ok5_18 (k := g - 576) (by omega)
    rwa [show 576 + (g - 576) = g by omega] at h
  · have h := okAll_at ok5_19 (k := g - 608) (by omega)
    rwa [show 608 + (g - 608) = g by omega] at h
  · have h := okAll_at ok5_20 (k := g - 640) (by omega)
    rwa [show 640 + (g - 640) = g by omega] at h
  · have h := okAll_at ok5_21 (k := g - 672) (by omega)
    rwa [show 672 + (g - 672) = g by omega] at h
  · have h := okAll_at ok5_22 (k := g - 704) (by omega)
    rwa [show 704 + (g - 704) = g by omega] at h
  · have h := okAll_at ok5_23 (k := g - 736) (by omega)
    rwa [show 736 + (g - 736) = g by omega] at h
  · have h := okAll_at ok5_24 (k := g - 768) (by omega)
    rwa [show 768 + (g - 768) = g by omega] at h
  · have h := okAll_at ok5_25 (k := g - 800) (by omega)
    rwa [show 800 + (g - 800) = g by omega] at h
  · have h := okAll_at ok5_26 (k := g - 832) (by omega)
    rwa [show 832 + (g - 832) = g by omega] at h
  · have h := okAll_at ok5_27 (k := g - 864) (by omega)
    rwa [show 864 + (g - 864) = g by omega] at h
  · have h := okAll_at ok5_28 (k := g - 896) (by omega)
    rwa [show 896 + (g - 896) = g by omega] at h
  · have h := okAll_at ok5_29 (k := g - 928) (by omega)
    rwa [show 928 + (g - 928) = g by omega] at h
  · have h := okAll_at ok5_30 (k := g - 960) (by omega)
    rwa [show 960 + (g - 960) = g by omega] at h
  · have h := okAll_at ok5_31 (k := g - 992) (by omega)
    rwa [show 992 + (g - 992) = g by omega] at h
/-- a relation among the first n languages -/
def resN (n : Nat) (adj : Nat → Nat → Bool) (a b : Nat) : Bool := (decide (a < n) && decide (b < n)) && adj a b
theorem resN_same (n : Nat) (adj : Nat → Nat → Bool) : SameAdj n adj (resN n adj) := fun a b ha hb _ => by
  unfold resN
  rw [decide_eq_true ha, decide_eq_true hb]
  rfl
theorem resN_symm {n : Nat} {adj : Nat → Nat → Bool} (h : ∀ a b, adj a b = adj b a) (a b : Nat) : resN n adj a b = resN n adj b a := by
  unfold resN
  rw [h a b, Bool.and_comm (decide (a < n))]
theorem SameAdj.trans {n : Nat} {x y z : Nat → Nat → Bool} (h : SameAdj n x y) (k : SameAdj n y z) : SameAdj n x z := fun a b ha hb hne => (h a b ha hb hne).trans (k a b ha hb hne)
theorem gOf_res2 (adj : Nat → Nat → Bool) : gOf (resN 2 adj) < 2 := by
  have := Bool.toNat_le (adj 0 1)
  simp [gOf, resN]; omega
theorem gOf_res3 (adj : Nat → Nat → Bool) : gOf (resN 3 adj) < 8 := by
  have := Bool.toNat_le (adj 0 1); have := Bool.toNat_le (adj 0 2); have := Bool.toNat_le (adj 1 2)
  simp [gOf, resN]; omega
theorem gOf_res4 (adj : Nat → Nat → Bool) : gOf (resN 4 adj) < 64 := by
  have := Bool.toNat_le (adj 0 1); have := Bool.toNat_le (adj 0 2); have := Bool.toNat_le (adj 1 2); have := Bool.toNat_le (adj 0 3); have := Bool.toNat_le (adj 1 3); have := Bool.toNat_le (adj 2 3)
  simp [gOf, resN]; omega
/-- each symmetric relation is a graph that has been looked at -/
theorem graph_of {n : Nat} (h2 : 2 ≤ n) (h5 : n ≤ 5) {adj : Nat → Nat → Bool} (hs : ∀ a b, adj a b = adj b a) : ∃ g, SameAdj n adj (adjG g) ∧ okG n g = true := by
  refine ⟨gOf (resN n adj), (resN_same n adj).trans (gOf_same h5 _ (resN_symm hs)), ?_⟩
  rcases (by omega : n = 2 ∨ n = 3 ∨ n = 4 ∨ n = 5) with rfl | rfl | rfl | rfl
  · have h := okAll_at ok2 (gOf_res2 adj); rwa [Nat.zero_add] at h
  · have h := okAll_at ok3 (gOf_res3 adj); rwa [Nat.zero_add] at h
  · have h := okAll_at ok4 (gOf_res4 adj); rwa [Nat.zero_add] at h
  · exact graph5 _ (gOf_lt _)
theorem along_same {n : Nat} {adj : Nat → Nat → Bool} {g : Nat} (h : SameAdj n adj (adjG g)) : ∀ (l : List Nat), (∀ x ∈ l, x < n) → alongC (adjG g) l = true → alongC adj l = true
  | [], _, _ => rfl
  | [_], _, _ => rfl
  | a :: b :: l, hx, hl => by
    have hl' : (adjG g a b && alongC (adjG g) (b :: l)) = true := hl
    rw [Bool.and_eq_true] at hl'
    have hne : a ≠ b := fun e => by
      subst e
      have := hl'.1
      unfold adjG at this
      rw [show Nat.beq a a = true from Nat.beq_refl a] at this
      cases this
    show (adj a b && alongC adj (b :: l)) = true
    rw [h a b (hx a (by simp)) (hx b (by simp)) hne, hl'.1, along_same h (b :: l) (fun x hm => hx x (List.mem_cons_of_mem _ hm)) hl'.2]
    rfl
/-- what is true of the steps from a language -/
theorem far_facts {n : Nat} (h2 : 2 ≤ n) (h5 : n ≤ 5) {adj : Nat → Nat → Bool} (hs : ∀ a b, adj a b = adj b a) {fr : Nat} (hf : fr < n) :
    dig (farD n adj fr) fr = 1 ∧ ∀ a b, a < n → b < n → a ≠ b → adj a b = true → dig (farD n adj fr) a ≠ 0 → 1 ≤ dig (farD n adj fr) b ∧ dig (farD n adj fr) b ≤ dig (farD n adj fr) a + 1 := by
  obtain ⟨g, hg, hok⟩ := graph_of h2 h5 hs
  rw [farD_same hg fr]
  have h1 := List.all_eq_true.1 hok fr (List.mem_range.2 hf)
  rw [Bool.and_eq_true] at h1
  have h3 := h1.1
  unfold okF at h3
  rw [Bool.and_eq_true] at h3
  refine ⟨eq_of_beq h3.1, fun a b ha hb hne hab h0 => ?_⟩
  have h4 := List.all_eq_true.1 (List.all_eq_true.1 h3.2 a (List.mem_range.2 ha)) b (List.mem_range.2 hb)
  rw [← hg a b ha hb hne, hab] at h4
  have h0' : (dig (farD n (adjG g) fr) a == 0) = false := by simpa using h0
  rw [h0'] at h4
  simp only [Bool.not_true, Bool.false_or, Bool.and_eq_true] at h4
  exact ⟨Nat.le_of_ble_eq_true h4.1, Nat.le_of_ble_eq_true h4.2⟩
structure ChainFacts (n : Nat) (adj : Nat → Nat → Bool) (fr dst : Nat) : Prop where
  same : chainD n adj fr dst = rChainD n adj fr dst
  none : chainD n adj fr dst = none → dig (farD n adj fr) dst = 0 ∧ dig (farD n adj dst) fr = 0
  some : ∀ l, chainD n adj fr dst = some l → 2 ≤ l.length ∧ l.length ≤ n ∧ l.head? = some fr ∧ l.getLast? = some dst ∧ (∀ x ∈ l, x < n) ∧ alongC adj l = true ∧ dig (farD n adj fr) dst = l.length ∧ dig (farD n adj dst) fr = l.length
theorem chain_facts {n : Nat} (h2 : 2 ≤ n) (h5 : n ≤ 5) {adj : Nat → Nat → Bool} (hs : ∀ a b, adj a b = adj b a) {fr dst : Nat} (hf : fr < n) (hd : dst < n) (hne : fr ≠ dst) : ChainFacts n adj fr dst := by
  obtain ⟨g, hg, hok⟩ := graph_of h2 h5 hs
  have h1 := List.all_eq_true.1 hok fr (List.mem_range.2 hf)
  rw [Bool.and_eq_true] at h1
  have h3 := List.all_eq_true.1 h1.2 dst (List.mem_range.2 hd)
  have hb : (fr == dst) = false := by simpa using hne
  rw [hb, Bool.false_or] at h3
  unfold okC at h3
  rw [Bool.and_eq_true] at h3
  obtain ⟨h4, h6⟩ := h3
  have ec := chainD_same hg dst hf
  have er := rChainD_same hg dst hf
  have ef := farD_same hg fr
  have et := farD_same hg dst
  refine ⟨by rw [ec, er]; exact eq_of_beq h4, fun hn => ?_, fun l hl => ?_⟩
  · rw [ec] at hn
    rw [hn] at h6
    simp only [Bool.and_eq_true] at h6
    rw [ef, et]
    exact ⟨eq_of_beq h6.1, eq_of_beq h6.2⟩
  · rw [ec] at hl
    rw [hl] at h6
    simp only [Bool.and_eq_true] at h6
    obtain ⟨⟨⟨⟨⟨⟨⟨q1, q2⟩, q3⟩, q4⟩, q5⟩, q6⟩, q7⟩, q8⟩ := h6
    have hx : ∀ x ∈ l, x < n := fun x hm => Nat.lt_of_not_le fun hc => by
      have := List.all_eq_true.1 q5 x hm
      have := Nat.le_of_ble_eq_true this
      omega
    rw [ef, et]
    exact ⟨Nat.le_of_ble_eq_true q1, Nat.le_of_ble_eq_true q2, eq_of_beq q3, eq_of_beq q4, hx, along_same hg l hx q6, eq_of_beq q7, eq_of_beq q8⟩

end Go.Proofs.Yticeekkfdkfcgaa
