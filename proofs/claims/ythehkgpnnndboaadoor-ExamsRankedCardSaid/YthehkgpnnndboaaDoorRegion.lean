/- A region that draws its order, by facts on what each operation leaves: no order is ever chosen. Each head operation i leaves a value v with 'D i v w'; such a fact must survive whatever the other heads do to the world ('R'). The tail runs behind all heads, in the text's order. -/
import Derived.WalkKit
import Derived.StillTail
namespace Go.Proofs.YthehkgpnnndboaaDoor
section
variable {P : Program} {ops : Array Oper} {Q : Exit → Act → World → Prop} {md : Region.Mode}

def dstOf (ops : Array Oper) (i : Nat) : Option Tmp := (ops[i]?).bind (·.dst)
/-- edges go to earlier operations; heads have destinations of their own, within the frame -/
def headsOk (md : Region.Mode) (ops : Array Oper) (n sz : Nat) : Bool :=
  ((List.range n).all fun i => match ops[i]? with
    | some o => (o.after.all fun e => !Region.binds md e || decide (e.on < i)) && (match o.dst with
      | some t => decide (t < sz) && (List.range n).all fun j => j == i || dstOf ops j != some t
      | none => false)
    | none => false) && decide (n ≤ ops.size) && (decide (n = ops.size) || (Region.sinkB md ops n && Region.chainB md ops n)) &&
  Region.seqB md ops (ops.size - n) n ((Array.range ops.size).map fun i => decide (i < n))

theorem headsOk_spec {n sz : Nat} (h : headsOk md ops n sz = true) :
    (∀ i, i < n → ∃ o, ops[i]? = some o ∧ (∀ e ∈ o.after, Region.binds md e = true → e.on < i) ∧ ∃ t, o.dst = some t ∧ t < sz ∧ ∀ j, j < n → j ≠ i → dstOf ops j ≠ some t) ∧
    n ≤ ops.size ∧ (n < ops.size → Region.sinkB md ops n = true ∧ Region.chainB md ops n = true) ∧ Region.seqB md ops (ops.size - n) n ((Array.range ops.size).map fun i => decide (i < n)) = true := by
  simp only [headsOk, Bool.and_eq_true] at h
  obtain ⟨⟨⟨h1, h2⟩, h3⟩, h4⟩ := h
  refine ⟨fun i hi => ?_, by simpa using h2, fun hlt => ?_, h4⟩
  · have h := List.all_eq_true.1 h1 i (List.mem_range.2 hi)
    cases ho : ops[i]? with
    | none => simp [ho] at h
    | some o =>
      simp only [ho, Bool.and_eq_true] at h
      refine ⟨o, rfl, fun e he hb => ?_, ?_⟩
      · have := Array.all_eq_true_iff_forall_mem.1 h.1 e he
        simp [hb] at this
        exact this
      · cases hd : o.dst with
        | none => simp [hd] at h
        | some t =>
          simp only [hd, Bool.and_eq_true, decide_eq_true_eq] at h
          refine ⟨t, rfl, h.2.1, fun j hj hne heq => ?_⟩
          have := List.all_eq_true.1 h.2.2 j (List.mem_range.2 hj)
          simp [hne, heq] at this
  · simp only [Bool.or_eq_true, decide_eq_true_eq, Bool.and_eq_true] at h3
    rcases h3 with h3 | h3
    · omega
    · exact h3

/-- how many of the first k are not listed -/
def unlisted (listed : Array Bool) : Nat → Nat
  | 0 => 0
  | k + 1 => unlisted listed k + if listed.getD k false = true then 0 else 1
theorem getD_set_self {listed : Array Bool} {i : Nat} (hi : i < listed.size) : (listed.setIfInBounds i true).getD i false = true := by simp [hi]
theorem getD_set_other {listed : Array Bool} {i j : Nat} (hij : i ≠ j) : (listed.setIfInBounds i true).getD j false = listed.getD j false := by
  simp [Array.getElem?_setIfInBounds_ne hij]
theorem unlisted_set {listed : Array Bool} {i : Nat} (hi : i < listed.size) (hu : listed.getD i false = false) :
    ∀ k, unlisted (listed.setIfInBounds i true) k + (if i < k then 1 else 0) = unlisted listed k
  | 0 => by simp [unlisted]
  | k + 1 => by
    have ih := unlisted_set hi hu k
    simp only [unlisted]
    by_cases hik : i = k
    · subst hik
      rw [getD_set_self hi, hu]
      simp at ih ⊢
      omega
    · rw [getD_set_other hik]
      generalize (if listed.getD k false = true then 0 else 1) = z
      by_cases h : i < k
      · have h2 : i < k + 1 := by omega
        rw [if_pos h] at ih
        rw [if_pos h2]
        omega
      · have h2 : ¬ i < k + 1 := by omega
        rw [if_neg h] at ih
        rw [if_neg h2]
        omega
theorem unlisted_zero {listed : Array Bool} : ∀ {k}, unlisted listed k = 0 → ∀ i, i < k → listed.getD i false = true
  | 0, _, i, hi => by omega
  | k + 1, h, i, hi => by
    simp only [unlisted] at h
    by_cases hk : listed.getD k false = true
    · rw [if_pos hk] at h
      rcases Nat.lt_or_ge i k with h1 | h1
      · exact unlisted_zero (by omega) i h1
      · obtain rfl : i = k := by omega
        exact hk
    · rw [if_neg hk] at h; omega
theorem unlisted_least {listed : Array Bool} : ∀ {k}, unlisted listed k ≠ 0 → ∃ i, i < k ∧ listed.getD i false = false ∧ ∀ j, j < i → listed.getD j false = true
  | 0, h => absurd rfl h
  | k + 1, h => by
    by_cases h0 : unlisted listed k = 0
    · simp only [unlisted, h0] at h
      refine ⟨k, by omega, ?_, fun j hj => unlisted_zero h0 j hj⟩
      cases hk : listed.getD k false
      · rfl
      · rw [hk] at h; simp at h
    · obtain ⟨i, h1, h2, h3⟩ := unlisted_least h0
      exact ⟨i, by omega, h2, h3⟩
theorem unlisted_fresh (m : Nat) : ∀ k, unlisted (Array.replicate m false) k = k
  | 0 => rfl
  | k + 1 => by
    simp only [unlisted, unlisted_fresh m k, getD_replicate_false]
    simp

/-- what is known between two operations -/
structure Facts (ops : Array Oper) (n : Nat) (a0 : Act) (w0 : World) (R : World → World → Prop) (D : Nat → Value → World → Prop) (listed : Array Bool) (a : Act) (w : World) : Prop where
  grow : R w0 w
  defers : a.defers = a0.defers
  size : a.tmps.size = a0.tmps.size
  far : ∀ t, (∀ i, i < n → dstOf ops i ≠ some t) → a.tmps[t]? = a0.tmps[t]?
  near : ∀ i t, i < n → listed.getD i false = true → dstOf ops i = some t → D i (a.tmps[t]?.getD undef) w

/-- one head operation, from whatever state in which what it waits for has come -/
def StepOk (P : Program) (md : Region.Mode) (ops : Array Oper) (Q : Exit → Act → World → Prop) (n : Nat) (a0 : Act) (w0 : World) (R : World → World → Prop) (D : Nat → Value → World → Prop) (i : Nat) (o : Oper) : Prop :=
  ∀ a w, R w0 w → a.defers = a0.defers → a.tmps.size = a0.tmps.size → (∀ t, (∀ j, j < n → dstOf ops j ≠ some t) → a.tmps[t]? = a0.tmps[t]?) →
    (∀ e ∈ o.after, Region.binds md e = true → ∀ t, dstOf ops e.on = some t → D e.on (a.tmps[t]?.getD undef) w) →
    if Region.wanted o (yielded ops a.tmps) = true then o.wp P a w (fun a' w' => ∃ v, a' = a.put o.dst v ∧ R w w' ∧ D i v w') Q else D i undef w

theorem wpAny_facts {n : Nat} {a0 : Act} {w0 : World} {R : World → World → Prop} {D : Nat → Value → World → Prop} (hok : headsOk md ops n a0.tmps.size = true)
    (hRt : ∀ x y z, R x y → R y z → R x z) (hRr : ∀ x, R x x) (hD : ∀ i v x y, D i v x → R x y → D i v y)
    (hstep : ∀ i o, i < n → ops[i]? = some o → StepOk P md ops Q n a0 w0 R D i o)
    (hfin : ∀ a w, R w0 w → a.defers = a0.defers → a.tmps.size = a0.tmps.size → (∀ t, (∀ i, i < n → dstOf ops i ≠ some t) → a.tmps[t]? = a0.tmps[t]?) →
      (∀ i t, i < n → dstOf ops i = some t → D i (a.tmps[t]?.getD undef) w) → wpList P ops Q (ops.toList.drop n) a w) :
    ∀ (m : Nat) (listed : Array Bool) (a : Act) (w : World), unlisted listed n = m → HeadInv md ops n listed → Facts ops n a0 w0 R D listed a w →
      wpAny P md ops Q (m + (ops.size - n)) listed a w := by
  obtain ⟨hh, hn, htail, hseq⟩ := headsOk_spec hok
  intro m
  induction m with
  | zero =>
    intro listed a w hu inv F
    have hall := unlisted_zero hu
    have hl : listed = (Array.range ops.size).map fun i => decide (i < n) := by
      refine Array.ext (by simp [inv.size]) fun i h1 h2 => ?_
      rw [inv.size] at h1
      by_cases hi : i < n
      · have := hall i hi
        simp only [Array.getElem_map, Array.getElem_range]
        rw [Array.getD_eq_getD_getElem?, Array.getElem?_eq_getElem (by rw [inv.size]; exact h1)] at this
        simp at this
        simp [this, hi]
      · have := inv.tail i (by omega) h1
        simp only [Array.getElem_map, Array.getElem_range]
        rw [Array.getD_eq_getD_getElem?, Array.getElem?_eq_getElem (by rw [inv.size]; exact h1)] at this
        simp at this
        simp [this, hi]
    rw [Nat.zero_add]
    have hd : (ops.toList.drop n).length = ops.size - n := by simp
    rw [← hd]
    refine wpAny_of_seq (ops.toList.drop n) n listed a w (fun j => by simp) (by rw [hd, hl]; exact hseq) ?_
    exact hfin a w F.grow F.defers F.size F.far fun i t hi hd => F.near i t hi (hall i hi) hd
  | succ m ih =>
    intro listed a w hu inv F
    rw [show m + 1 + (ops.size - n) = (m + (ops.size - n)) + 1 by omega]
    obtain ⟨i0, hi0, hi1, hi2⟩ := unlisted_least (listed := listed) (k := n) (by omega)
    have hin0 : i0 < listed.size := by rw [inv.size]; omega
    have hun0 : listed.getD i0 true = false := getD_in hin0 hi1
    refine ⟨fun hr => ?_, fun i hi => ?_⟩
    · obtain ⟨o, ho, hedge, _⟩ := hh i0 hi0
      have : i0 ∈ Region.ready md ops listed := mem_ready.2 ⟨hun0, o, ho, fun e he hb => hi2 _ (hedge e he hb)⟩
      rw [hr] at this
      cases this
    · obtain ⟨hiun, o, ho, hall⟩ := mem_ready.1 hi
      have hisz : i < ops.size := (Array.getElem?_eq_some_iff.1 ho).1
      have hin : i < n := by
        rcases Nat.lt_or_ge i n with h | h
        · exact h
        · obtain ⟨h3, h4⟩ := htail (by omega)
          exact absurd hi (tail_waits h3 h4 (by omega) inv _ i0 rfl hi0 hun0 i h)
      obtain ⟨o', ho', hedge, t, hdst, htsz, hdiff⟩ := hh i hin
      obtain rfl : o' = o := Option.some.inj (ho'.symm.trans ho)
      have hil : i < listed.size := by rw [inv.size]; exact hisz
      have hnext : ∀ v w', R w w' → D i v w' → wpAny P md ops Q (m + (ops.size - n)) (listed.setIfInBounds i true) (a.put o'.dst v) w' := by
        intro v w' hR hDv
        refine ih _ _ _ ?_ (inv.set hi hin) ?_
        · have := unlisted_set hil (getD_both hiun) n
          rw [if_pos hin] at this
          omega
        · have htl : t < a.tmps.size := by rw [F.size]; exact htsz
          refine ⟨hRt _ _ _ F.grow hR, by rw [hdst]; exact F.defers, by rw [hdst]; simp [Act.put, F.size], fun u hu => ?_, fun j u hj hl hdj => ?_⟩
          · have hne : t ≠ u := fun h => hu i hin (by simp [dstOf, ho, hdst, h])
            rw [hdst]
            simp only [Act.put]
            rw [Array.getElem?_setIfInBounds_ne hne]
            exact F.far u hu
          · by_cases hji : j = i
            · subst hji
              have : u = t := by simpa [dstOf, ho, hdst] using hdj.symm
              subst this
              rw [hdst]
              simp only [Act.put]
              rw [Array.getElem?_setIfInBounds_self_of_lt htl]
              exact hDv
            · have hne : t ≠ u := fun h => hdiff j hj hji (by rw [hdj, h])
              rw [getD_set_other (Ne.symm hji)] at hl
              rw [hdst]
              simp only [Act.put]
              rw [Array.getElem?_setIfInBounds_ne hne]
              exact hD _ _ _ _ (F.near j u hj hl hdj) hR
      have hs := hstep i o' hin ho a w F.grow F.defers F.size F.far (fun e he hb u hd => F.near e.on u (by have := hedge e he hb; omega) (hall e he hb) hd)
      unfold wpOp
      simp only [ho]
      split
      · rename_i hw
        rw [if_pos hw] at hs
        exact .inl (Oper.wp_mono (fun a' w' ⟨v, ha, hR, hDv⟩ => by rw [ha]; exact hnext v w' hR hDv) hs)
      · rename_i hw
        rw [if_neg hw] at hs
        exact hnext undef w (hRr w) hs

/-- all steps, one behind the other -/
def StepsOk (P : Program) (md : Region.Mode) (ops : Array Oper) (Q : Exit → Act → World → Prop) (n : Nat) (a0 : Act) (w0 : World) (R : World → World → Prop) (D : Nat → Value → World → Prop) : Nat → List Oper → Prop
  | _, [] => True
  | k, o :: l => StepOk P md ops Q n a0 w0 R D k o ∧ StepsOk P md ops Q n a0 w0 R D (k + 1) l
theorem StepsOk.at_ {n : Nat} {a0 : Act} {w0 : World} {R : World → World → Prop} {D : Nat → Value → World → Prop} : ∀ {l : List Oper} {k : Nat}, StepsOk P md ops Q n a0 w0 R D k l →
    ∀ i o, l[i]? = some o → StepOk P md ops Q n a0 w0 R D (k + i) o
  | [], _, _, i, o, h => by simp at h
  | x :: l, k, h, 0, o, ho => by
    have : x = o := by simpa using ho
    subst this
    exact h.1
  | x :: l, k, h, i + 1, o, ho => by
    have := StepsOk.at_ h.2 i o (by simpa using ho)
    rwa [show k + 1 + i = k + (i + 1) by omega] at this

theorem wpAny_region_facts {l : List Oper} {a0 : Act} {w : World} (n : Nat) (R : World → World → Prop) (D : Nat → Value → World → Prop)
    (hok : headsOk .any l.toArray n a0.tmps.size = true)
    (hRt : ∀ x y z, R x y → R y z → R x z) (hRr : ∀ x, R x x) (hD : ∀ i v x y, D i v x → R x y → D i v y)
    (hstep : StepsOk P .any l.toArray Q n a0 w.drew R D 0 (l.take n))
    (hfin : ∀ a w', R w.drew w' → a.defers = a0.defers → a.tmps.size = a0.tmps.size → (∀ t, (∀ i, i < n → dstOf l.toArray i ≠ some t) → a.tmps[t]? = a0.tmps[t]?) →
      (∀ i t, i < n → dstOf l.toArray i = some t → D i (a.tmps[t]?.getD undef) w') → wpList P l.toArray Q (l.drop n) a w') :
    wpAny P .any l.toArray Q l.toArray.size (Array.replicate l.toArray.size false) a0 w.drew := by
  have hn := (headsOk_spec hok).2.1
  have h := wpAny_facts (P := P) (Q := Q) (w0 := w.drew) hok hRt hRr hD (fun i o hi ho => by
      have := hstep.at_ i o (by rw [List.getElem?_take_of_lt hi]; simpa using ho)
      rwa [Nat.zero_add] at this) hfin n (Array.replicate l.toArray.size false) a0 w.drew (unlisted_fresh _ _)
    ⟨by simp, fun j oj _ hl => (by rw [getD_replicate_false] at hl; cases hl), fun t _ ht => getD_in (by simpa using ht) (getD_replicate_false _ _)⟩
    ⟨hRr _, rfl, rfl, fun _ _ => rfl, fun i t _ hl _ => by rw [getD_replicate_false] at hl; cases hl⟩
  rw [show n + (l.toArray.size - n) = l.toArray.size by omega] at h
  exact h

/-! ### The same, with the frame written out -/
/-- does o look at what x leaves? -/
def looked (ops : Array Oper) (o x : Oper) : Bool := match x.dst with
  | some t => (o.looksAt ops).contains t
  | none => false
/-- over the heads (number, slot) that an operation looks at: their values in the frame, whatever they are, with what is known of them -/
def depV (D : Nat → Value → World → Prop) (w : World) : List (Nat × Tmp) → Act → (Act → Prop) → Prop
  | [], a, G => G a
  | (j, t) :: l, a, G => ∀ v, D j v w → depV D w l (a.put (some t) v) G
/-- over all heads: their values in the frame -/
def finVC (D : Nat → Value → World → Prop) (w : World) : List Oper → Nat → Act → (Act → Prop) → Prop
  | [], _, a, G => G a
  | x :: l, j, a, G => ∀ v, D j v w → finVC D w l (j + 1) (a.put x.dst v) G
/-- deps names, for each head, the heads that it looks at, with their slots; it waits for each of them -/
def depsOk (md : Region.Mode) (ops : Array Oper) (l : List Oper) (deps : List (List (Nat × Tmp))) : Bool :=
  decide (deps.length = l.length) && (l.zip deps).all fun (o, d) => (l.zipIdx.all fun (x, j) => match x.dst with
    | some t => !looked ops o x || d.contains (j, t)
    | none => true) && d.all fun (j, t) => decide (dstOf ops j = some t) && decide (j < l.length) && o.after.any fun e => e.on == j && Region.binds md e
def StepLit (P : Program) (ops : Array Oper) (a0 : Act) (w0 : World) (R : World → World → Prop) (D : Nat → Value → World → Prop) (d : List (Nat × Tmp)) (i : Nat) (o : Oper) : Prop :=
  ∀ w, R w0 w → depV D w d a0 fun b => bif Region.wanted o (yielded ops b.tmps) then
    o.wp P b w (fun a' w' => a'.defers = b.defers ∧ R w w' ∧ D i (a'.tmps[o.dst.getD 0]?.getD undef) w') (fun _ _ _ => False) else D i undef w

theorem exec_agree {o : Oper} (hs : ∀ cs b, o.op ≠ .select cs b) {a b : Act} (h : ∀ t, t ∈ o.looksAt ops → a.tmps[t]? = b.tmps[t]?) : execOp a.eval o = execOp b.eval o :=
  execOp_congr o hs fun x hx => by
    cases x with
    | tmp t =>
      have : t ∈ o.looksAt ops := List.mem_append_left _ (List.mem_filterMap.2 ⟨.tmp t, by simpa using hx, rfl⟩)
      simp [Act.eval, h t this]
    | _ => rfl
theorem wanted_agree {o : Oper} {a b : Act} (h : ∀ t, t ∈ o.looksAt ops → a.tmps[t]? = b.tmps[t]?) : Region.wanted o (yielded ops a.tmps) = Region.wanted o (yielded ops b.tmps) := by
  unfold Region.wanted
  cases hg : o.guard with
  | none => rfl
  | some g =>
    obtain ⟨j, want⟩ := g
    have : yielded ops a.tmps j = yielded ops b.tmps j := by
      unfold yielded
      cases hd : (ops[j]?).bind (·.dst) with
      | none => simp
      | some t =>
        have ht : t ∈ o.looksAt ops := by
          unfold Oper.looksAt
          rw [hg]
          exact List.mem_append_right _ (by simp only [hd]; simp)
        simp [h t ht]
    simp [this]
theorem wp_carry {o : Oper} {a b : Act} {w : World} {t : Tmp} {T : Value → World → Prop} (he : execOp b.eval o = execOp a.eval o) (hd : o.dst = some t) (ht : t < b.tmps.size)
    (h : o.wp P b w (fun a' w' => a'.defers = b.defers ∧ T (a'.tmps[t]?.getD undef) w') (fun _ _ _ => False)) : o.wp P a w (fun a' w' => ∃ v, a' = a.put o.dst v ∧ T v w') Q := by
  have hput : ∀ v, ((b.put o.dst v).tmps[t]?.getD undef) = v := fun v => by rw [hd]; simp [Act.put, ht]
  unfold Oper.wp at *
  rw [he] at h
  generalize (execOp a.eval o).run P w = r at *
  cases r with
  | ok n w' =>
    cases n <;> simp only [Oper.upon] at h ⊢
    case value u => rw [hput] at h; exact ⟨u, rfl, h.2⟩
    case skip => rw [hput] at h; exact ⟨undef, rfl, h.2⟩
    case defer d =>
      exfalso
      have h1 := h.1
      rw [hd] at h1
      have := congrArg List.length h1
      simp [Act.put] at this
    case enter f args =>
      refine Calls.mono h fun e w'' hh => ?_
      cases e with
      | returned u => exact ⟨u, rfl, by have := hh.2; rwa [hput] at this⟩
      | panicked c => exact hh.elim
      | outgrown => obtain ⟨_, _, h1⟩ := hh; exact h1.elim
    case row row args => exact Rows.mono h fun u w'' hh => ⟨u, rfl, by have := hh.2; rwa [hput] at this⟩
  | halt x w' =>
    cases x <;> simp only [Oper.upon] at h ⊢

theorem depV_elim {D : Nat → Value → World → Prop} {w : World} {o : Oper} {a : Act} {G : Act → Prop} {sz : Nat} (hsz : a.tmps.size = sz) :
    ∀ (l : List (Nat × Tmp)) (b : Act), b.tmps.size = sz → b.defers = a.defers →
      (∀ j t, (j, t) ∈ l → t < sz ∧ D j (a.tmps[t]?.getD undef) w) →
      (∀ t, t ∈ o.looksAt ops → (∃ j, (j, t) ∈ l) ∨ b.tmps[t]? = a.tmps[t]?) →
      depV D w l b G → ∃ b', b'.tmps.size = sz ∧ b'.defers = a.defers ∧ (∀ t, t ∈ o.looksAt ops → b'.tmps[t]? = a.tmps[t]?) ∧ G b'
  | [], b, hb, hbd, _, hag, h => ⟨b, hb, hbd, fun t ht => by
      rcases hag t ht with ⟨j, hj⟩ | h
      · cases hj
      · exact h, h⟩
  | (j, t) :: l, b, hb, hbd, hD, hag, h => by
    unfold depV at h
    obtain ⟨htsz, h0⟩ := hD j t (by simp)
    refine depV_elim hsz l (b.put (some t) (a.tmps[t]?.getD undef)) (by simp [Act.put, hb]) hbd (fun j u hu => hD j u (List.mem_cons_of_mem _ hu)) (fun u hu => ?_) (h _ h0)
    simp only [Act.put]
    by_cases hut : t = u
    · subst hut
      right
      rw [Array.getElem?_setIfInBounds_self_of_lt (by rw [hb]; exact htsz)]
      rw [Array.getElem?_eq_getElem (by rw [hsz]; exact htsz)]
      rfl
    · rcases hag u hu with ⟨i, hi⟩ | h
      · rcases List.mem_cons.1 hi with hi | hi
        · injection hi with _ hi; exact absurd hi.symm hut
        · exact .inl ⟨i, hi⟩
      · right
        rw [Array.getElem?_setIfInBounds_ne hut]
        exact h

theorem finVC_elim {D : Nat → Value → World → Prop} {w : World} {a : Act} {G : Act → Prop} {sz : Nat} (hsz : a.tmps.size = sz) :
    ∀ (l : List Oper) (j : Nat) (b : Act), b.tmps.size = sz → b.defers = a.defers →
      (∀ k x, l[k]? = some x → ∃ t, x.dst = some t ∧ t < sz ∧ D (j + k) (a.tmps[t]?.getD undef) w) →
      (∀ t, (∃ x, x ∈ l ∧ x.dst = some t) ∨ b.tmps[t]? = a.tmps[t]?) → finVC D w l j b G → G a
  | [], j, b, hb, hbd, _, hag, h => by
    have : b = a := by
      obtain ⟨bt, bd⟩ := b
      obtain ⟨at', ad⟩ := a
      have e1 : bt = at' := Array.ext_getElem? fun t => by
        rcases hag t with ⟨x, hx, _⟩ | h
        · cases hx
        · exact h
      subst e1
      exact congrArg _ hbd
    rw [← this]; exact h
  | x :: l, j, b, hb, hbd, hD, hag, h => by
    unfold finVC at h
    obtain ⟨t, hd, htsz, h0⟩ := hD 0 x (by simp)
    rw [Nat.add_zero] at h0
    refine finVC_elim hsz l (j + 1) (b.put x.dst (a.tmps[t]?.getD undef)) (by rw [hd]; simp [Act.put, hb]) (by rw [hd]; exact hbd)
      (fun k y hk => by
        obtain ⟨u, h1, h2, h3⟩ := hD (k + 1) y (by simpa using hk)
        exact ⟨u, h1, h2, by rwa [show j + (k + 1) = j + 1 + k by omega] at h3⟩) (fun u => ?_) (h _ h0)
    rw [hd]
    simp only [Act.put]
    by_cases hut : t = u
    · subst hut
      right
      rw [Array.getElem?_setIfInBounds_self_of_lt (by rw [hb]; exact htsz)]
      rw [Array.getElem?_eq_getElem (by rw [hsz]; exact htsz)]
      rfl
    · rcases hag u with ⟨y, hy, hyd⟩ | h
      · rcases List.mem_cons.1 hy with rfl | hy
        · rw [hd] at hyd; exact absurd (by injection hyd) hut
        · exact .inl ⟨y, hy, hyd⟩
      · right
        rw [Array.getElem?_setIfInBounds_ne hut]
        exact h

def StepsLit (P : Program) (ops : Array Oper) (a0 : Act) (w0 : World) (R : World → World → Prop) (D : Nat → Value → World → Prop) : List (List (Nat × Tmp)) → Nat → List Oper → Prop
  | _, _, [] => True
  | [], _, _ :: _ => False
  | d :: ds, k, o :: l => StepLit P ops a0 w0 R D d k o ∧ StepsLit P ops a0 w0 R D ds (k + 1) l
theorem StepsLit.at_ {a0 : Act} {w0 : World} {R : World → World → Prop} {D : Nat → Value → World → Prop} : ∀ {l : List Oper} {ds : List (List (Nat × Tmp))} {k : Nat}, StepsLit P ops a0 w0 R D ds k l →
    ∀ i o, l[i]? = some o → ∃ d, ds[i]? = some d ∧ StepLit P ops a0 w0 R D d (k + i) o
  | [], _, _, _, i, o, h => by simp at h
  | x :: l, [], _, h, i, o, ho => h.elim
  | x :: l, d :: ds, k, h, 0, o, ho => by
    have : x = o := by simpa using ho
    subst this
    exact ⟨d, by simp, h.1⟩
  | x :: l, d :: ds, k, h, i + 1, o, ho => by
    have := StepsLit.at_ h.2 i o (by simpa using ho)
    rw [show k + 1 + i = k + (i + 1) by omega] at this
    simpa using this

/-- THE THEOREM FOR WALKS: n heads in whatever order, then the rest in the text's order. -/
theorem wpAny_region_lit {l : List Oper} {a0 : Act} {w : World} (n : Nat) (deps : List (List (Nat × Tmp))) (R : World → World → Prop) (D : Nat → Value → World → Prop)
    (hok : (headsOk .any l.toArray n a0.tmps.size && (depsOk .any l.toArray (l.take n) deps && Region.noSelect l.toArray)) = true)
    (hRt : ∀ x y z, R x y → R y z → R x z) (hRr : ∀ x, R x x) (hD : ∀ i v x y, D i v x → R x y → D i v y)
    (hstep : StepsLit P l.toArray a0 w.drew R D deps 0 (l.take n))
    (hfin : ∀ w', R w.drew w' → finVC D w' (l.take n) 0 a0 fun a => wpList P l.toArray Q (l.drop n) a w') :
    wpAny P .any l.toArray Q l.toArray.size (Array.replicate l.toArray.size false) a0 w.drew := by
  simp only [Bool.and_eq_true] at hok
  obtain ⟨h1, h2, h3⟩ := hok
  obtain ⟨hh, hn, _, _⟩ := headsOk_spec h1
  have hlen : (l.take n).length = n := by simp at hn ⊢; omega
  have htake : ∀ {k : Nat} {x : Oper}, (l.take n)[k]? = some x → k < n ∧ l.toArray[k]? = some x := fun {k x} hk => by
    have hkn : k < n := by rw [← hlen]; exact (List.getElem?_eq_some_iff.1 hk).1
    exact ⟨hkn, by rw [List.getElem?_take_of_lt hkn] at hk; simpa using hk⟩
  have hback : ∀ {k : Nat} {x : Oper}, k < n → l.toArray[k]? = some x → (l.take n)[k]? = some x := fun {k x} hk hx => by
    rw [List.getElem?_take_of_lt hk]
    simpa using hx
  simp only [depsOk, Bool.and_eq_true, decide_eq_true_eq] at h2
  obtain ⟨_, h2⟩ := h2
  refine wpAny_region_facts n R D h1 hRt hRr hD ?_ ?_
  · suffices H : ∀ i o, (l.take n)[i]? = some o → StepOk P .any l.toArray Q n a0 w.drew R D i o by
      have : ∀ (m : List Oper) (k : Nat), (∀ i o, m[i]? = some o → StepOk P .any l.toArray Q n a0 w.drew R D (k + i) o) → StepsOk P .any l.toArray Q n a0 w.drew R D k m := by
        intro m
        induction m with
        | nil => intro _ _; trivial
        | cons x m ih => exact fun k h => ⟨h 0 x (by simp), ih (k + 1) fun i o ho => by have := h (i + 1) o (by simpa using ho); rwa [show k + (i + 1) = k + 1 + i by omega] at this⟩
      exact this _ 0 fun i o ho => by rw [Nat.zero_add]; exact H i o ho
    intro i o ho a w1 hR hdef hsize hfar hdep
    obtain ⟨hin, hoi⟩ := htake ho
    obtain ⟨d, hd, hs⟩ := hstep.at_ i o ho
    have hs := hs w1 hR
    rw [Nat.zero_add] at hs
    have hsel := Region.noSelect_spec h3 i o
    obtain ⟨o', ho', hedge, t, hdst, htsz, _⟩ := hh i hin
    obtain rfl : o' = o := Option.some.inj (ho'.symm.trans hoi)
    have hz : (o', d) ∈ (l.take n).zip deps := by
      refine List.mem_iff_getElem?.2 ⟨i, ?_⟩
      rw [List.getElem?_zip_eq_some]
      exact ⟨ho, hd⟩
    have h4 := List.all_eq_true.1 h2 _ hz
    simp only [Bool.and_eq_true] at h4
    obtain ⟨h5, h6⟩ := h4
    obtain ⟨b, hb1, hb2, hb3, hb4⟩ := depV_elim (o := o') (ops := l.toArray) (a := a) hsize d a0 rfl hdef.symm
      (fun j u hu => by
        have h7 := List.all_eq_true.1 h6 _ hu
        simp only [Bool.and_eq_true, decide_eq_true_eq] at h7
        obtain ⟨⟨h8, h9⟩, h10⟩ := h7
        rw [hlen] at h9
        obtain ⟨e, he, hb⟩ := Array.any_eq_true'.1 h10
        simp only [Bool.and_eq_true, beq_iff_eq] at hb
        refine ⟨?_, ?_⟩
        · obtain ⟨x', hx', _, u', hu', hlt, _⟩ := hh j h9
          simp only [dstOf, hx', Option.bind_some] at h8
          rw [hu'] at h8
          injection h8 with h8
          rw [← h8]; exact hlt
        · have := hdep e he hb.2 u (by rw [hb.1]; exact h8)
          rw [hb.1] at this
          exact this)
      (fun u hu => by
        by_cases hx : ∃ j, j < n ∧ dstOf l.toArray j = some u
        · obtain ⟨j, hj, hjd⟩ := hx
          obtain ⟨x, hx', _⟩ := hh j hj
          have hxd : x.dst = some u := by simpa [dstOf, hx'] using hjd
          have h7 := List.all_eq_true.1 h5 (x, j) (List.mk_mem_zipIdx_iff_getElem?.2 (hback hj hx'))
          simp only [hxd] at h7
          have h8 : looked l.toArray o' x = true := by simp [looked, hxd, hu]
          simp only [h8, Bool.not_true, Bool.false_or] at h7
          exact .inl ⟨j, by simpa using h7⟩
        · exact .inr (hfar u fun j hj hd => hx ⟨j, hj, hd⟩).symm)
      hs
    rw [wanted_agree (fun u hu => (hb3 u hu).symm)]
    cases hwd : Region.wanted o' (yielded l.toArray b.tmps) with
    | true =>
      rw [hwd] at hb4
      simp only [hdst, Option.getD_some] at hb4
      rw [if_pos rfl]
      exact wp_carry (T := fun v w' => R w1 w' ∧ D i v w') (exec_agree (fun cs bb => hsel cs bb hoi) hb3) hdst (by rw [hb1]; exact htsz) hb4
    | false =>
      rw [hwd] at hb4
      rw [if_neg (by simp)]
      exact hb4
  · intro a w' hR hdef hsize hfar hnear
    refine finVC_elim (a := a) hsize (l.take n) 0 a0 rfl hdef.symm (fun k x hk => ?_) (fun u => ?_) (hfin w' hR)
    · obtain ⟨hkn, hkx⟩ := htake hk
      obtain ⟨x', hx', _, u, hu, hlt, _⟩ := hh k hkn
      obtain rfl : x' = x := Option.some.inj (hx'.symm.trans hkx)
      rw [Nat.zero_add]
      exact ⟨u, hu, hlt, hnear k u hkn (by simp [dstOf, hkx, hu])⟩
    · by_cases hx : ∃ x, x ∈ l.take n ∧ x.dst = some u
      · exact .inl hx
      · refine .inr (hfar u fun j hj hd => hx ?_).symm
        obtain ⟨x, hxo, _⟩ := hh j hj
        exact ⟨x, List.mem_iff_getElem?.2 ⟨j, hback hj hxo⟩, by simpa [dstOf, hxo] using hd⟩
end

theorem wp_region_lit {P : Program} {Q : Exit → Act → World → Prop} {id : Nat} {l : List Oper} {a0 : Act} {w : World} (n : Nat) (deps : List (List (Nat × Tmp))) (R : World → World → Prop) (D : Nat → Value → World → Prop) (hm : P.follows .mixedOrders = true)
    (hok : (headsOk .any l.toArray n a0.tmps.size && (depsOk .any l.toArray (l.take n) deps && Region.noSelect l.toArray)) = true)
    (hRt : ∀ x y z, R x y → R y z → R x z) (hRr : ∀ x, R x x) (hD : ∀ i v x y, D i v x → R x y → D i v y)
    (hstep : StepsLit P l.toArray a0 w.drew R D deps 0 (l.take n))
    (hfin : ∀ w', R w.drew w' → finVC D w' (l.take n) 0 a0 fun a => wpList P l.toArray Q (l.drop n) a w') :
    (Code.region id l.toArray true).wp P Q a0 w :=
  wp_region_any hm (wpAny_region_lit n deps R D hok hRt hRr hD hstep hfin)

end Go.Proofs.YthehkgpnnndboaaDoor
