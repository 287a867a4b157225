/- EaseM: what the statement on easier pools makes of a pool. -/
import Derived.Test.YtcgnibfcjadnjaaEasierM
import Derived.Test.YtcgnibfcjadnjaaFar
namespace Go.Proofs.Ytcgnibfcjadnjaa
open Go.RowKit

/-- how a pool is eased -/
structure EaseN where
  who : Int
  a : Nat
  b : Nat
  c : Nat
  sl : Int
  la : Int
  n : Nat
  i : Nat
  m : Nat
  j : FolkI
def EaseN.f (x : EaseN) (p : Pool) : Bool := decide (0 ≤ x.who) && decide (x.who < p.folk.length)
def EaseN.r (x : EaseN) (p : Pool) : Bool := (decide (0 ≤ x.sl) && decide (x.sl < p.needs.length)) && decide (0 ≤ x.la) && decide (x.la < p.tn)
def personE (p : Pool) (x : EaseN) (f : FolkN) : FolkN := ⟨f.t ||| (x.a &&& (2 ^ p.tn - 1)), f.s ||| (x.b &&& (2 ^ p.needs.length - 1)), f.y - x.c⟩
def folkE (p : Pool) (x : EaseN) : List FolkN := if x.f p then p.folk.set x.who.toNat (personE p x (p.folk.getD x.who.toNat nof)) else p.folk
def rowE (p : Pool) (x : EaseN) : List Nat := (p.row x.sl.toNat).set x.la.toNat ((p.row x.sl.toNat).getD x.la.toNat 0 - x.n)
def needsE (p : Pool) (x : EaseN) : List (List Nat) := if x.r p then p.needs.set x.sl.toNat (rowE p x) else p.needs
def easeD (p : Pool) (x : EaseN) : Pool := ⟨folkE p x, needsE p x, p.ill - x.i, min 6 (p.most + x.m)⟩
def joinI (p : Pool) (x : EaseN) : PoolI := ⟨(folkE p x).map FolkN.i ++ [x.j], (needsE p x).map natsL, (p.ill - x.i : Nat), (min 6 (p.most + x.m) : Nat)⟩

theorem folkE_len (p : Pool) (x : EaseN) : (folkE p x).length = p.folk.length := by
  unfold folkE
  split
  · exact List.length_set
  · rfl
theorem needsE_len (p : Pool) (x : EaseN) : (needsE p x).length = p.needs.length := by
  unfold needsE
  split
  · exact List.length_set
  · rfl
theorem rowE_len (p : Pool) (x : EaseN) : (rowE p x).length = (p.row x.sl.toNat).length := List.length_set
theorem getD_set {α : Type} (l : List α) (k i : Nat) (v d : α) : (l.set k v).getD i d = if k = i ∧ i < l.length then v else l.getD i d := by
  simp only [List.getD_eq_getElem?_getD, List.getElem?_set]
  by_cases h : k = i
  · subst h
    by_cases h2 : k < l.length
    · simp [h2]
    · simp [h2]
  · simp [h]
theorem folkE_at (p : Pool) (x : EaseN) (i : Nat) (h : i < p.folk.length) : (folkE p x).getD i nof = p.folk.getD i nof ∨ (folkE p x).getD i nof = personE p x (p.folk.getD i nof) := by
  unfold folkE
  split
  · rw [getD_set]
    by_cases h1 : x.who.toNat = i
    · rw [if_pos ⟨h1, h⟩, h1]; exact .inr rfl
    · rw [if_neg (fun q => h1 q.1)]; exact .inl rfl
  · exact .inl rfl
theorem needsE_at (p : Pool) (x : EaseN) (s : Nat) : (needsE p x).getD s [] = p.row s ∨ ((needsE p x).getD s [] = rowE p x ∧ x.sl.toNat = s) := by
  unfold needsE
  split
  · rw [getD_set]
    by_cases h1 : x.sl.toNat = s ∧ s < p.needs.length
    · rw [if_pos h1]; exact .inr ⟨rfl, h1.1⟩
    · rw [if_neg h1]; exact .inl rfl
  · exact .inl rfl
theorem has_or (a b e : Nat) : hasN (a ||| b) e = (hasN a e || hasN b e) := by simp only [hasN_test, Nat.testBit_or]
theorem ease_tn (p : Pool) (x : EaseN) : (easeD p x).tn = p.tn := by
  show ((needsE p x).getD 0 []).length = _
  rcases needsE_at p x 0 with h | ⟨h, h2⟩
  · rw [h]; rfl
  · rw [h, rowE_len, h2]; rfl
theorem or_lt {a b k : Nat} (ha : a < 2 ^ k) (hb : b < 2 ^ k) : a ||| b < 2 ^ k := Nat.or_lt_two_pow ha hb
theorem and_mask_lt (a k : Nat) : a &&& (2 ^ k - 1) < 2 ^ k := by
  have := Nat.two_pow_pos k
  exact Nat.lt_of_le_of_lt Nat.and_le_right (by omega)
theorem good_ease {p : Pool} (G : Good p) (x : EaseN) : Good (easeD p x) := by
  have h1 := G.f1
  have h2 := G.f5
  have h3 := G.n1
  have h4 := G.n3
  have h5 := G.t1
  have h6 := G.t3
  have h7 := G.ill
  have h8 := G.most
  refine ⟨?_, ?_, ?_, ?_, by rw [ease_tn]; omega, by rw [ease_tn]; omega, ?_, ?_, ?_, ?_⟩
  · show 1 ≤ (folkE p x).length
    rw [folkE_len]; exact h1
  · show (folkE p x).length ≤ 5
    rw [folkE_len]; exact h2
  · show 1 ≤ (needsE p x).length
    rw [needsE_len]; exact h3
  · show (needsE p x).length ≤ 3
    rw [needsE_len]; exact h4
  · intro r hr
    have hr : r ∈ needsE p x := hr
    rw [ease_tn]
    unfold needsE at hr
    split at hr
    · rename_i hx
      rcases List.mem_or_eq_of_mem_set hr with hr | rfl
      · exact G.rows r hr
      · unfold EaseN.r at hx
        simp only [Bool.and_eq_true, decide_eq_true_eq] at hx
        have hs : x.sl.toNat < p.needs.length := by omega
        have hrow := G.rows (p.row x.sl.toNat) (by
          unfold Pool.row
          rw [List.getD_eq_getElem?_getD, List.getElem?_eq_getElem hs]
          exact List.getElem_mem hs)
        refine ⟨by rw [rowE_len]; exact hrow.1, fun y hy => ?_⟩
        unfold rowE at hy
        rcases List.mem_or_eq_of_mem_set hy with hy | rfl
        · exact hrow.2 y hy
        · have hl : x.la.toNat < (p.row x.sl.toNat).length := by rw [hrow.1]; omega
          have := hrow.2 _ (List.getElem_mem hl)
          rw [List.getD_eq_getElem?_getD, List.getElem?_eq_getElem hl]
          show (p.row x.sl.toNat)[x.la.toNat] - x.n ≤ 8
          omega
    · exact G.rows r hr
  · intro f hf
    have hf : f ∈ folkE p x := hf
    rw [ease_tn]
    show f.t < 2 ^ p.tn ∧ f.s < 2 ^ (needsE p x).length ∧ f.y ≤ 1000
    rw [needsE_len]
    unfold folkE at hf
    split at hf
    · rename_i hx
      rcases List.mem_or_eq_of_mem_set hf with hf | rfl
      · exact G.folk f hf
      · unfold EaseN.f at hx
        simp only [Bool.and_eq_true, decide_eq_true_eq] at hx
        have hl : x.who.toNat < p.folk.length := by omega
        have := G.folk _ (List.getElem_mem hl)
        rw [List.getD_eq_getElem?_getD, List.getElem?_eq_getElem hl]
        refine ⟨or_lt this.1 (and_mask_lt _ _), or_lt this.2.1 (and_mask_lt _ _), ?_⟩
        show p.folk[x.who.toNat].y - x.c ≤ 1000
        omega
    · exact G.folk f hf
  · show p.ill - x.i ≤ 3
    omega
  · show min 6 (p.most + x.m) ≤ 6
    omega
theorem easier_ease {p : Pool} (G : Good p) (x : EaseN) : Easier p (easeD p x) := by
  have h8 := G.most
  refine ⟨?_, ?_, ?_, ?_, needsE_len p x, ease_tn p x, ?_, ?_, ?_⟩
  · show _ ≤ (folkE p x).length
    rw [folkE_len]; exact Nat.le_refl _
  · intro i e hi hh
    show hasN ((folkE p x).getD i nof).t e = true
    rcases folkE_at p x i hi with h | h
    · rw [h]; exact hh
    · rw [h]; show hasN (_ ||| _) e = true; rw [has_or, hh]; rfl
  · intro i e hi hh
    show hasN ((folkE p x).getD i nof).s e = true
    rcases folkE_at p x i hi with h | h
    · rw [h]; exact hh
    · rw [h]; show hasN (_ ||| _) e = true; rw [has_or, hh]; rfl
  · intro i hi
    show ((folkE p x).getD i nof).y ≤ _
    rcases folkE_at p x i hi with h | h
    · rw [h]; exact Nat.le_refl _
    · rw [h]; exact Nat.sub_le _ _
  · intro s k
    show ((needsE p x).getD s []).getD k 0 ≤ _
    rcases needsE_at p x s with h | ⟨h, rfl⟩
    · rw [h]; exact Nat.le_refl _
    · rw [h]
      unfold rowE
      rw [getD_set]
      split
      · rename_i hq
        rw [hq.1]; exact Nat.sub_le _ _
      · exact Nat.le_refl _
  · exact Nat.sub_le _ _
  · show p.most ≤ min 6 (p.most + x.m)
    omega
theorem ok_of_good {p : Pool} (G : Good p) : okPool p.i = true := by
  have h1 := G.f1
  have h2 := G.f5
  have h3 := G.n1
  have h4 := G.n3
  have h5 := G.t1
  have h6 := G.t3
  have h7 := G.ill
  have h8 := G.most
  have htn : tnI p.i = p.tn := by
    show ((p.needs.map natsL).getD 0 []).length = ((p.needs).getD 0 []).length
    cases p.needs with
    | nil => rfl
    | cons a l => exact natsL_length a
  have hf : (p.i.folk.length : Int) = p.folk.length := by show ((p.folk.map FolkN.i).length : Int) = _; rw [List.length_map]
  have hn : (p.i.needs.length : Int) = p.needs.length := by show ((p.needs.map natsL).length : Int) = _; rw [List.length_map]
  unfold okPool
  simp only [Bool.and_eq_true, List.all_eq_true]
  rw [inB_iff, inB_iff, inB_iff, inB_iff, hf, hn, htn]
  refine ⟨⟨by omega, fun r hr => ?_⟩, ⟨⟨by omega, fun f hf => ?_⟩, ?_⟩, ?_⟩
  · obtain ⟨l, hl, rfl⟩ := List.mem_map.1 (show r ∈ p.needs.map natsL from hr)
    obtain ⟨e1, e2⟩ := G.rows l hl
    unfold okRow
    simp only [Bool.and_eq_true, List.all_eq_true, decide_eq_true_eq, inB_iff, natsL_length]
    refine ⟨e1, by omega, fun y hy => ?_⟩
    obtain ⟨z, hz, rfl⟩ := List.mem_map.1 (show y ∈ l.map (fun n : Nat => (n : Int)) from hy)
    have := e2 z hz
    omega
  · obtain ⟨y, hy, rfl⟩ := List.mem_map.1 (show f ∈ p.folk.map FolkN.i from hf)
    obtain ⟨e1, e2, e3⟩ := G.folk y hy
    unfold okFolk
    simp only [Bool.and_eq_true, inB_iff]
    rw [Int.toNat_natCast, Int.toNat_natCast]
    have q1 : ((2 : Int) ^ p.tn) = ((2 ^ p.tn : Nat) : Int) := (Int.natCast_pow 2 _).symm
    have q2 : ((2 : Int) ^ p.needs.length) = ((2 ^ p.needs.length : Nat) : Int) := (Int.natCast_pow 2 _).symm
    rw [q1, q2]
    refine ⟨⟨⟨?_, ?_⟩, ⟨?_, ?_⟩⟩, ⟨?_, ?_⟩⟩
    · show (0 : Int) ≤ (y.t : Nat); omega
    · show ((y.t : Nat) : Int) ≤ _; omega
    · show (0 : Int) ≤ (y.s : Nat); omega
    · show ((y.s : Nat) : Int) ≤ _; omega
    · show (0 : Int) ≤ (y.y : Nat); omega
    · show ((y.y : Nat) : Int) ≤ _; omega
  · show (0 : Int) ≤ (p.ill : Nat) ∧ ((p.ill : Nat) : Int) ≤ 3
    omega
  · show (0 : Int) ≤ (p.most : Nat) ∧ ((p.most : Nat) : Int) ≤ 6
    omega
theorem folkN_inj {l l' : List FolkN} (h : l.map FolkN.i = l'.map FolkN.i) : l = l' := by
  refine (List.map_inj_right fun a b hab => ?_).1 h
  obtain ⟨a1, a2, a3⟩ := a
  obtain ⟨b1, b2, b3⟩ := b
  have h1 : (a1 : Int) = b1 := congrArg FolkI.t hab
  have h2 : (a2 : Int) = b2 := congrArg FolkI.s hab
  have h3 : (a3 : Int) = b3 := congrArg FolkI.y hab
  rw [Int.ofNat_inj.1 h1, Int.ofNat_inj.1 h2, Int.ofNat_inj.1 h3]
theorem natsL_inj {l l' : List Nat} (h : natsL l = natsL l') : l = l' := (List.map_inj_right fun _ _ hab => Int.ofNat_inj.1 hab).1 h
theorem needs_inj {l l' : List (List Nat)} (h : l.map natsL = l'.map natsL) : l = l' := (List.map_inj_right fun _ _ hab => natsL_inj hab).1 h
theorem join_easier {p : Pool} (G : Good p) (x : EaseN) (h4 : p.folk.length ≤ 4) (hok : okPool (joinI p x) = true) : ∃ q : Pool, joinI p x = q.i ∧ Good q ∧ Easier p q := by
  have htn : tnI (joinI p x) = p.tn := by
    rw [← ease_tn p x]
    show (((needsE p x).map natsL).getD 0 []).length = ((needsE p x).getD 0 []).length
    cases needsE p x with
    | nil => rfl
    | cons a l => exact natsL_length a
  have hnl := needsE_len p x
  have hfl := folkE_len p x
  obtain ⟨q, hq, G'⟩ := good_of hok ⟨by
    show ((folkE p x).map FolkN.i ++ [x.j]).length ≤ 5
    rw [List.length_append, List.length_map, hfl]
    show p.folk.length + 1 ≤ 5
    omega, by
    show ((needsE p x).map natsL).length ≤ 3
    rw [List.length_map, hnl]
    exact G.n3, by rw [htn]; exact G.t3⟩
  refine ⟨q, hq, G', ?_⟩
  have E := easier_ease G x
  have e1 : (folkE p x).map FolkN.i ++ [x.j] = q.folk.map FolkN.i := congrArg PoolI.folk hq
  have e2 : (needsE p x).map natsL = q.needs.map natsL := congrArg PoolI.needs hq
  have e3 : ((p.ill - x.i : Nat) : Int) = (q.ill : Nat) := congrArg PoolI.ill hq
  have e4 : ((min 6 (p.most + x.m) : Nat) : Int) = (q.most : Nat) := congrArg PoolI.most hq
  have e2 := needs_inj e2
  obtain ⟨l1, l2, hl, h1, h2⟩ := List.map_eq_append_iff.1 e1.symm
  have h1 := folkN_inj h1
  subst h1
  have hat : ∀ i, i < p.folk.length → q.folk.getD i nof = (folkE p x).getD i nof := fun i hi => by
    rw [hl, List.getD_eq_getElem?_getD, List.getD_eq_getElem?_getD, List.getElem?_append_left (by omega)]
  refine ⟨by rw [hl, List.length_append, hfl]; omega, fun i e hi hh => by rw [hat i hi]; exact E.t i e hi hh, fun i e hi hh => by rw [hat i hi]; exact E.s i e hi hh, fun i hi => by rw [hat i hi]; exact E.y i hi, by rw [← e2]; exact hnl, ?_, fun s k => ?_, ?_, ?_⟩
  · show (q.needs.getD 0 []).length = _
    rw [← e2]
    exact E.tn
  · show (q.needs.getD s []).getD k 0 ≤ _
    rw [← e2]
    exact E.row s k
  · have h := E.ill
    have h : p.ill - x.i ≤ p.ill := h
    omega
  · have h : p.most ≤ min 6 (p.most + x.m) := E.most
    omega

end Go.Proofs.Ytcgnibfcjadnjaa
