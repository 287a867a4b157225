/- RegionP: a region that draws its order, with what is known of two heads together (that two new blocks differ). -/
import Derived.Test.YticeekkfdkfcgaaRegion
namespace Go.Proofs.Yticeekkfdkfcgaa
section
variable {P : Program} {ops : Array Oper} {Q : Exit → Act → World → Prop} {md : Region.Mode}

structure FactsP (ops : Array Oper) (n : Nat) (a0 : Act) (w0 : World) (R : World → World → Prop) (D : Nat → Value → World → Prop) (E : Nat → Nat → Value → Value → Prop) (listed : Array Bool) (a : Act) (w : World) : Prop extends Facts ops n a0 w0 R D listed a w where
  pair : ∀ i j t u, i < n → j < n → i ≠ j → listed.getD i false = true → listed.getD j false = true → dstOf ops i = some t → dstOf ops j = some u → E i j (a.tmps[t]?.getD undef) (a.tmps[u]?.getD undef)
def StepOkP (P : Program) (md : Region.Mode) (ops : Array Oper) (Q : Exit → Act → World → Prop) (n : Nat) (a0 : Act) (w0 : World) (R : World → World → Prop) (D : Nat → Value → World → Prop) (E : Nat → Nat → Value → Value → Prop) (i : Nat) (o : Oper) : Prop :=
  ∀ a w, R w0 w → a.defers = a0.defers → a.tmps.size = a0.tmps.size → (∀ t, (∀ j, j < n → dstOf ops j ≠ some t) → a.tmps[t]? = a0.tmps[t]?) →
    (∀ e ∈ o.after, Region.binds md e = true → ∀ t, dstOf ops e.on = some t → D e.on (a.tmps[t]?.getD undef) w) →
    if Region.wanted o (yielded ops a.tmps) = true then o.wp P a w (fun a' w' => ∃ v, a' = a.put o.dst v ∧ R w w' ∧ D i v w' ∧ ∀ j u, j ≠ i → D j u w → E i j v u ∧ E j i u v) Q else D i undef w ∧ ∀ j u, j ≠ i → D j u w → E i j undef u ∧ E j i u undef

theorem wpAny_pairs {n : Nat} {a0 : Act} {w0 : World} {R : World → World → Prop} {D : Nat → Value → World → Prop} {E : Nat → Nat → Value → Value → Prop} (hok : headsOk md ops n a0.tmps.size = true)
    (hRt : ∀ x y z, R x y → R y z → R x z) (hRr : ∀ x, R x x) (hD : ∀ i v x y, D i v x → R x y → D i v y)
    (hstep : ∀ i o, i < n → ops[i]? = some o → StepOkP P md ops Q n a0 w0 R D E i o)
    (hfin : ∀ a w, R w0 w → a.defers = a0.defers → a.tmps.size = a0.tmps.size → (∀ t, (∀ i, i < n → dstOf ops i ≠ some t) → a.tmps[t]? = a0.tmps[t]?) →
      (∀ i t, i < n → dstOf ops i = some t → D i (a.tmps[t]?.getD undef) w) → (∀ i j t u, i < n → j < n → i ≠ j → dstOf ops i = some t → dstOf ops j = some u → E i j (a.tmps[t]?.getD undef) (a.tmps[u]?.getD undef)) → wpList P ops Q (ops.toList.drop n) a w) :
    ∀ (m : Nat) (listed : Array Bool) (a : Act) (w : World), unlisted listed n = m → HeadInv md ops n listed → FactsP ops n a0 w0 R D E listed a w →
      wpAny P md ops Q (m + (ops.size - n)) listed a w := by
  obtain ⟨hh, hn, htail, hseq⟩ := headsOk_spec hok
  intro m
  induction m with
  | zero =>
    intro listed a w hu inv F
    have hall := unlisted_zero hu
    have hl : listed = (Array.range ops.size).map fun i => decide (i < n) := by
      refine Array.ext (by simp [inv.size]) fun i h1 h2 => ?_
      rw [inv.size] at h1
      by_cases hi : i < n
      · have := hall i hi
        simp only [Array.getElem_map, Array.getElem_range]
        rw [Array.getD_eq_getD_getElem?, Array.getElem?_eq_getElem (by rw [inv.size]; exact h1)] at this
        simp at this
        simp [this, hi]
      · have := inv.tail i (by omega) h1
        simp only [Array.getElem_map, Array.getElem_range]
        rw [Array.getD_eq_getD_getElem?, Array.getElem?_eq_getElem (by rw [inv.size]; exact h1)] at this
        simp at this
        simp [this, hi]
    rw [Nat.zero_add]
    have hd : (ops.toList.drop n).length = ops.size - n := by simp
    rw [← hd]
    refine wpAny_of_seq (ops.toList.drop n) n listed a w (fun j => by simp) (by rw [hd, hl]; exact hseq) ?_
    exact hfin a w F.grow F.defers F.size F.far (fun i t hi hd => F.near i t hi (hall i hi) hd) fun i j t u hi hj hne h1 h2 => F.pair i j t u hi hj hne (hall i hi) (hall j hj) h1 h2
  | succ m ih =>
    intro listed a w hu inv F
    rw [show m + 1 + (ops.size - n) = (m + (ops.size - n)) + 1 by omega]
    obtain ⟨i0, hi0, hi1, hi2⟩ := unlisted_least (listed := listed) (k := n) (by omega)
    have hin0 : i0 < listed.size := by rw [inv.size]; omega
    have hun0 : listed.getD i0 true = false := getD_in hin0 hi1
    refine ⟨fun hr => ?_, fun i hi => ?_⟩
    · obtain ⟨o, ho, hedge, _⟩ := hh i0 hi0
      have : i0 ∈ Region.ready md ops listed := mem_ready.2 ⟨hun0, o, ho, fun e he hb => hi2 _ (hedge e he hb)⟩
      rw [hr] at this
      cases this
    · obtain ⟨hiun, o, ho, hall⟩ := mem_ready.1 hi
      have hisz : i < ops.size := (Array.getElem?_eq_some_iff.1 ho).1
      have hin : i < n := by
        rcases Nat.lt_or_ge i n with h | h
        · exact h
        · obtain ⟨h3, h4⟩ := htail (by omega)
          exact absurd hi (tail_waits h3 h4 (by omega) inv _ i0 rfl hi0 hun0 i h)
      obtain ⟨o', ho', hedge, t, hdst, htsz, hdiff⟩ := hh i hin
      obtain rfl : o' = o := Option.some.inj (ho'.symm.trans ho)
      have hil : i < listed.size := by rw [inv.size]; exact hisz
      have hnext : ∀ v w', R w w' → D i v w' → (∀ j u, j ≠ i → D j u w → E i j v u ∧ E j i u v) → wpAny P md ops Q (m + (ops.size - n)) (listed.setIfInBounds i true) (a.put o'.dst v) w' := by
        intro v w' hR hDv hE
        refine ih _ _ _ ?_ (inv.set hi hin) ?_
        · have := unlisted_set hil (getD_both hiun) n
          rw [if_pos hin] at this
          omega
        · have htl : t < a.tmps.size := by rw [F.size]; exact htsz
          refine ⟨⟨hRt _ _ _ F.grow hR, by rw [hdst]; exact F.defers, by rw [hdst]; simp [Act.put, F.size], fun u hu => ?_, fun j u hj hl hdj => ?_⟩, fun j k u z hj hk hjk hlj hlk hdj hdk => ?_⟩
          · have hne : t ≠ u := fun h => hu i hin (by simp [dstOf, ho, hdst, h])
            rw [hdst]
            simp only [Act.put]
            rw [Array.getElem?_setIfInBounds_ne hne]
            exact F.far u hu
          · by_cases hji : j = i
            · subst hji
              have : u = t := by simpa [dstOf, ho, hdst] using hdj.symm
              subst this
              rw [hdst]
              simp only [Act.put]
              rw [Array.getElem?_setIfInBounds_self_of_lt htl]
              exact hDv
            · have hne : t ≠ u := fun h => hdiff j hj hji (by rw [hdj, h])
              rw [getD_set_other (Ne.symm hji)] at hl
              rw [hdst]
              simp only [Act.put]
              rw [Array.getElem?_setIfInBounds_ne hne]
              exact hD _ _ _ _ (F.near j u hj hl hdj) hR
          · have hat : ∀ q, q = t → (a.put o'.dst v).tmps[q]?.getD undef = v := fun q hq => by
              subst hq
              rw [hdst]
              simp only [Act.put]
              rw [Array.getElem?_setIfInBounds_self_of_lt htl]
              rfl
            have hoff : ∀ q, t ≠ q → (a.put o'.dst v).tmps[q]?.getD undef = a.tmps[q]?.getD undef := fun q hq => by
              rw [hdst]
              simp only [Act.put]
              rw [Array.getElem?_setIfInBounds_ne hq]
            by_cases hji : j = i
            · subst hji
              have hu : u = t := by simpa [dstOf, ho, hdst] using hdj.symm
              have hne : t ≠ z := fun h => hdiff k hk (Ne.symm hjk) (by rw [hdk, h])
              rw [getD_set_other hjk] at hlk
              rw [hat u hu, hoff z hne]
              exact (hE k _ (Ne.symm hjk) (F.near k z hk hlk hdk)).1
            · have hne : t ≠ u := fun h => hdiff j hj hji (by rw [hdj, h])
              rw [getD_set_other (Ne.symm hji)] at hlj
              rw [hoff u hne]
              by_cases hki : k = i
              · subst hki
                have hz : z = t := by simpa [dstOf, ho, hdst] using hdk.symm
                rw [hat z hz]
                exact (hE j _ hji (F.near j u hj hlj hdj)).2
              · have hnz : t ≠ z := fun h => hdiff k hk hki (by rw [hdk, h])
                rw [getD_set_other (Ne.symm hki)] at hlk
                rw [hoff z hnz]
                exact F.pair j k u z hj hk hjk hlj hlk hdj hdk
      have hs := hstep i o' hin ho a w F.grow F.defers F.size F.far (fun e he hb u hd => F.near e.on u (by have := hedge e he hb; omega) (hall e he hb) hd)
      unfold wpOp
      simp only [ho]
      split
      · rename_i hw
        rw [if_pos hw] at hs
        exact .inl (Oper.wp_mono (fun a' w' ⟨v, ha, hR, hDv, hE⟩ => by rw [ha]; exact hnext v w' hR hDv hE) hs)
      · rename_i hw
        rw [if_neg hw] at hs
        exact hnext undef w (hRr w) hs.1 hs.2

/-- all steps, one behind the other -/
def StepsOkP (P : Program) (md : Region.Mode) (ops : Array Oper) (Q : Exit → Act → World → Prop) (n : Nat) (a0 : Act) (w0 : World) (R : World → World → Prop) (D : Nat → Value → World → Prop) (E : Nat → Nat → Value → Value → Prop) : Nat → List Oper → Prop
  | _, [] => True
  | k, o :: l => StepOkP P md ops Q n a0 w0 R D E k o ∧ StepsOkP P md ops Q n a0 w0 R D E (k + 1) l
theorem StepsOkP.at_ {n : Nat} {a0 : Act} {w0 : World} {R : World → World → Prop} {D : Nat → Value → World → Prop} {E : Nat → Nat → Value → Value → Prop} : ∀ {l : List Oper} {k : Nat}, StepsOkP P md ops Q n a0 w0 R D E k l →
    ∀ i o, l[i]? = some o → StepOkP P md ops Q n a0 w0 R D E (k + i) o
  | [], _, _, i, o, h => by simp at h
  | x :: l, k, h, 0, o, ho => by
    have : x = o := by simpa using ho
    subst this
    exact h.1
  | x :: l, k, h, i + 1, o, ho => by
    have := StepsOkP.at_ h.2 i o (by simpa using ho)
    rwa [show k + 1 + i = k + (i + 1) by omega] at this

theorem wp_region_pairs {id : Nat} {l : List Oper} {a0 : Act} {w : World} (n : Nat) (R : World → World → Prop) (D : Nat → Value → World → Prop) (E : Nat → Nat → Value → Value → Prop) (hm : P.follows .mixedOrders = true)
    (hok : headsOk .any l.toArray n a0.tmps.size = true)
    (hRt : ∀ x y z, R x y → R y z → R x z) (hRr : ∀ x, R x x) (hD : ∀ i v x y, D i v x → R x y → D i v y)
    (hstep : StepsOkP P .any l.toArray Q n a0 w.drew R D E 0 (l.take n))
    (hfin : ∀ a w', R w.drew w' → a.defers = a0.defers → a.tmps.size = a0.tmps.size → (∀ t, (∀ i, i < n → dstOf l.toArray i ≠ some t) → a.tmps[t]? = a0.tmps[t]?) →
      (∀ i t, i < n → dstOf l.toArray i = some t → D i (a.tmps[t]?.getD undef) w') → (∀ i j t u, i < n → j < n → i ≠ j → dstOf l.toArray i = some t → dstOf l.toArray j = some u → E i j (a.tmps[t]?.getD undef) (a.tmps[u]?.getD undef)) → wpList P l.toArray Q (l.drop n) a w') :
    (Code.region id l.toArray true).wp P Q a0 w := by
  refine wp_region_any hm ?_
  have hn := (headsOk_spec hok).2.1
  have h := wpAny_pairs (P := P) (Q := Q) (w0 := w.drew) hok hRt hRr hD (fun i o hi ho => by
      have := hstep.at_ i o (by rw [List.getElem?_take_of_lt hi]; simpa using ho)
      rwa [Nat.zero_add] at this) hfin n (Array.replicate l.toArray.size false) a0 w.drew (unlisted_fresh _ _)
    ⟨by simp, fun j oj _ hl => (by rw [getD_replicate_false] at hl; cases hl), fun t _ ht => getD_in (by simpa using ht) (getD_replicate_false _ _)⟩
    ⟨⟨hRr _, rfl, rfl, fun _ _ => rfl, fun i t _ hl _ => by rw [getD_replicate_false] at hl; cases hl⟩, fun i j t u _ _ _ hl => by rw [getD_replicate_false] at hl; cases hl⟩
  rw [show n + (l.toArray.size - n) = l.toArray.size by omega] at h
  exact h

def StepLitP (P : Program) (ops : Array Oper) (a0 : Act) (w0 : World) (R : World → World → Prop) (D : Nat → Value → World → Prop) (E : Nat → Nat → Value → Value → Prop) (d : List (Nat × Tmp)) (i : Nat) (o : Oper) : Prop :=
  ∀ w, R w0 w → depV D w d a0 fun b => bif Region.wanted o (yielded ops b.tmps) then
    o.wp P b w (fun a' w' => a'.defers = b.defers ∧ R w w' ∧ D i (a'.tmps[o.dst.getD 0]?.getD undef) w' ∧ ∀ j u, j ≠ i → D j u w → E i j (a'.tmps[o.dst.getD 0]?.getD undef) u ∧ E j i u (a'.tmps[o.dst.getD 0]?.getD undef)) (fun _ _ _ => False) else D i undef w ∧ ∀ j u, j ≠ i → D j u w → E i j undef u ∧ E j i u undef
def StepsLitP (P : Program) (ops : Array Oper) (a0 : Act) (w0 : World) (R : World → World → Prop) (D : Nat → Value → World → Prop) (E : Nat → Nat → Value → Value → Prop) : List (List (Nat × Tmp)) → Nat → List Oper → Prop
  | _, _, [] => True
  | [], _, _ :: _ => False
  | d :: ds, k, o :: l => StepLitP P ops a0 w0 R D E d k o ∧ StepsLitP P ops a0 w0 R D E ds (k + 1) l
theorem StepsLitP.at_ {a0 : Act} {w0 : World} {R : World → World → Prop} {D : Nat → Value → World → Prop} {E : Nat → Nat → Value → Value → Prop} : ∀ {l : List Oper} {ds : List (List (Nat × Tmp))} {k : Nat}, StepsLitP P ops a0 w0 R D E ds k l →
    ∀ i o, l[i]? = some o → ∃ d, ds[i]? = some d ∧ StepLitP P ops a0 w0 R D E d (k + i) o
  | [], _, _, _, i, o, h => by simp at h
  | x :: l, [], _, h, i, o, ho => h.elim
  | x :: l, d :: ds, k, h, 0, o, ho => by
    have : x = o := by simpa using ho
    subst this
    exact ⟨d, by simp, h.1⟩
  | x :: l, d :: ds, k, h, i + 1, o, ho => by
    have := StepsLitP.at_ h.2 i o (by simpa using ho)
    rw [show k + 1 + i = k + (i + 1) by omega] at this
    simpa using this

/-- THE THEOREM FOR WALKS: n heads in whatever order, then the rest in the text's order. -/
theorem wp_region_litP {id : Nat} {l : List Oper} {a0 : Act} {w : World} (n : Nat) (deps : List (List (Nat × Tmp))) (R : World → World → Prop) (D : Nat → Value → World → Prop) (E : Nat → Nat → Value → Value → Prop) (hm : P.follows .mixedOrders = true)
    (hok : (headsOk .any l.toArray n a0.tmps.size && (depsOk .any l.toArray (l.take n) deps && Region.noSelect l.toArray)) = true)
    (hRt : ∀ x y z, R x y → R y z → R x z) (hRr : ∀ x, R x x) (hD : ∀ i v x y, D i v x → R x y → D i v y)
    (hstep : StepsLitP P l.toArray a0 w.drew R D E deps 0 (l.take n))
    (hfin : ∀ w', R w.drew w' → finVC D w' (l.take n) 0 a0 fun a => (∀ i j t u, i < n → j < n → i ≠ j → dstOf l.toArray i = some t → dstOf l.toArray j = some u → E i j (a.tmps[t]?.getD undef) (a.tmps[u]?.getD undef)) → wpList P l.toArray Q (l.drop n) a w') :
    (Code.region id l.toArray true).wp P Q a0 w := by
  simp only [Bool.and_eq_true] at hok
  obtain ⟨h1, h2, h3⟩ := hok
  obtain ⟨hh, hn, _, _⟩ := headsOk_spec h1
  have hlen : (l.take n).length = n := by simp at hn ⊢; omega
  have htake : ∀ {k : Nat} {x : Oper}, (l.take n)[k]? = some x → k < n ∧ l.toArray[k]? = some x := fun {k x} hk => by
    have hkn : k < n := by rw [← hlen]; exact (List.getElem?_eq_some_iff.1 hk).1
    exact ⟨hkn, by rw [List.getElem?_take_of_lt hkn] at hk; simpa using hk⟩
  have hback : ∀ {k : Nat} {x : Oper}, k < n → l.toArray[k]? = some x → (l.take n)[k]? = some x := fun {k x} hk hx => by
    rw [List.getElem?_take_of_lt hk]
    simpa using hx
  simp only [depsOk, Bool.and_eq_true, decide_eq_true_eq] at h2
  obtain ⟨_, h2⟩ := h2
  refine wp_region_pairs n R D E hm h1 hRt hRr hD ?_ ?_
  · suffices H : ∀ i o, (l.take n)[i]? = some o → StepOkP P .any l.toArray Q n a0 w.drew R D E i o by
      have : ∀ (m : List Oper) (k : Nat), (∀ i o, m[i]? = some o → StepOkP P .any l.toArray Q n a0 w.drew R D E (k + i) o) → StepsOkP P .any l.toArray Q n a0 w.drew R D E k m := by
        intro m
        induction m with
        | nil => intro _ _; trivial
        | cons x m ih => exact fun k h => ⟨h 0 x (by simp), ih (k + 1) fun i o ho => by have := h (i + 1) o (by simpa using ho); rwa [show k + (i + 1) = k + 1 + i by omega] at this⟩
      exact this _ 0 fun i o ho => by rw [Nat.zero_add]; exact H i o ho
    intro i o ho a w1 hR hdef hsize hfar hdep
    obtain ⟨hin, hoi⟩ := htake ho
    obtain ⟨d, hd, hs⟩ := hstep.at_ i o ho
    have hs := hs w1 hR
    rw [Nat.zero_add] at hs
    have hsel := Region.noSelect_spec h3 i o
    obtain ⟨o', ho', hedge, t, hdst, htsz, _⟩ := hh i hin
    obtain rfl : o' = o := Option.some.inj (ho'.symm.trans hoi)
    have hz : (o', d) ∈ (l.take n).zip deps := by
      refine List.mem_iff_getElem?.2 ⟨i, ?_⟩
      rw [List.getElem?_zip_eq_some]
      exact ⟨ho, hd⟩
    have h4 := List.all_eq_true.1 h2 _ hz
    simp only [Bool.and_eq_true] at h4
    obtain ⟨h5, h6⟩ := h4
    obtain ⟨b, hb1, hb2, hb3, hb4⟩ := depV_elim (o := o') (ops := l.toArray) (a := a) hsize d a0 rfl hdef.symm
      (fun j u hu => by
        have h7 := List.all_eq_true.1 h6 _ hu
        simp only [Bool.and_eq_true, decide_eq_true_eq] at h7
        obtain ⟨⟨h8, h9⟩, h10⟩ := h7
        rw [hlen] at h9
        obtain ⟨e, he, hb⟩ := Array.any_eq_true'.1 h10
        simp only [Bool.and_eq_true, beq_iff_eq] at hb
        refine ⟨?_, ?_⟩
        · obtain ⟨x', hx', _, u', hu', hlt, _⟩ := hh j h9
          simp only [dstOf, hx', Option.bind_some] at h8
          rw [hu'] at h8
          injection h8 with h8
          rw [← h8]; exact hlt
        · have := hdep e he hb.2 u (by rw [hb.1]; exact h8)
          rw [hb.1] at this
          exact this)
      (fun u hu => by
        by_cases hx : ∃ j, j < n ∧ dstOf l.toArray j = some u
        · obtain ⟨j, hj, hjd⟩ := hx
          obtain ⟨x, hx', _⟩ := hh j hj
          have hxd : x.dst = some u := by simpa [dstOf, hx'] using hjd
          have h7 := List.all_eq_true.1 h5 (x, j) (List.mk_mem_zipIdx_iff_getElem?.2 (hback hj hx'))
          simp only [hxd] at h7
          have h8 : looked l.toArray o' x = true := by simp [looked, hxd, hu]
          simp only [h8, Bool.not_true, Bool.false_or] at h7
          exact .inl ⟨j, by simpa using h7⟩
        · exact .inr (hfar u fun j hj hd => hx ⟨j, hj, hd⟩).symm)
      hs
    rw [wanted_agree (fun u hu => (hb3 u hu).symm)]
    cases hwd : Region.wanted o' (yielded l.toArray b.tmps) with
    | true =>
      rw [hwd] at hb4
      simp only [hdst, Option.getD_some] at hb4
      rw [if_pos rfl]
      exact wp_carry (T := fun v w' => R w1 w' ∧ D i v w' ∧ ∀ j u, j ≠ i → D j u w1 → E i j v u ∧ E j i u v) (exec_agree (fun cs bb => hsel cs bb hoi) hb3) hdst (by rw [hb1]; exact htsz) hb4
    | false =>
      rw [hwd] at hb4
      rw [if_neg (by simp)]
      exact hb4
  · intro a w' hR hdef hsize hfar hnear hpair
    refine finVC_elim (a := a) hsize (l.take n) 0 a0 rfl hdef.symm (fun k x hk => ?_) (fun u => ?_) (hfin w' hR) hpair
    · obtain ⟨hkn, hkx⟩ := htake hk
      obtain ⟨x', hx', _, u, hu, hlt, _⟩ := hh k hkn
      obtain rfl : x' = x := Option.some.inj (hx'.symm.trans hkx)
      rw [Nat.zero_add]
      exact ⟨u, hu, hlt, hnear k u hkn (by simp [dstOf, hkx, hu])⟩
    · by_cases hx : ∃ x, x ∈ l.take n ∧ x.dst = some u
      · exact .inl hx
      · refine .inr (hfar u fun j hj hd => hx ?_).symm
        obtain ⟨x, hxo, _⟩ := hh j hj
        exact ⟨x, List.mem_iff_getElem?.2 ⟨j, hback hj hxo⟩, by simpa [dstOf, hxo] using hd⟩
end
end Go.Proofs.Yticeekkfdkfcgaa
