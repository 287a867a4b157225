/- A region that draws its order and stores among its operations: as in the text Region, but an operation may leave no value (a store): what it leaves in the world is its fact. -/
import Derived.Test.YthlihchndmbkaaaRegion
namespace Go.Proofs.Ythlihchndmbkaaa
section
variable {P : Program} {ops : Array Oper} {Q : Exit → Act → World → Prop} {md : Region.Mode}

/-- edges go to earlier operations; those heads that leave a value leave it in a slot of their own, within the frame -/
def headsOkS (md : Region.Mode) (ops : Array Oper) (n sz : Nat) : Bool :=
  ((List.range n).all fun i => match ops[i]? with
    | some o => (o.after.all fun e => !Region.binds md e || decide (e.on < i)) && (match o.dst with
      | some t => decide (t < sz) && (List.range n).all fun j => j == i || dstOf ops j != some t
      | none => true)
    | none => false) && decide (n ≤ ops.size) && (decide (n = ops.size) || (Region.sinkB md ops n && Region.chainB md ops n)) &&
  Region.seqB md ops (ops.size - n) n ((Array.range ops.size).map fun i => decide (i < n))

theorem headsOkS_spec {n sz : Nat} (h : headsOkS md ops n sz = true) :
    (∀ i, i < n → ∃ o, ops[i]? = some o ∧ (∀ e ∈ o.after, Region.binds md e = true → e.on < i) ∧ ∀ t, o.dst = some t → t < sz ∧ ∀ j, j < n → j ≠ i → dstOf ops j ≠ some t) ∧
    n ≤ ops.size ∧ (n < ops.size → Region.sinkB md ops n = true ∧ Region.chainB md ops n = true) ∧ Region.seqB md ops (ops.size - n) n ((Array.range ops.size).map fun i => decide (i < n)) = true := by
  simp only [headsOkS, Bool.and_eq_true] at h
  obtain ⟨⟨⟨h1, h2⟩, h3⟩, h4⟩ := h
  refine ⟨fun i hi => ?_, by simpa using h2, fun hlt => ?_, h4⟩
  · have h := List.all_eq_true.1 h1 i (List.mem_range.2 hi)
    cases ho : ops[i]? with
    | none => simp [ho] at h
    | some o =>
      simp only [ho, Bool.and_eq_true] at h
      refine ⟨o, rfl, fun e he hb => ?_, fun t hd => ?_⟩
      · have := Array.all_eq_true_iff_forall_mem.1 h.1 e he
        simp [hb] at this
        exact this
      · simp only [hd, Bool.and_eq_true, decide_eq_true_eq] at h
        refine ⟨h.2.1, fun j hj hne heq => ?_⟩
        have := List.all_eq_true.1 h.2.2 j (List.mem_range.2 hj)
        simp [hne, heq] at this
  · simp only [Bool.or_eq_true, decide_eq_true_eq, Bool.and_eq_true] at h3
    rcases h3 with h3 | h3
    · omega
    · exact h3

/-- what is known between two operations -/
structure FactsS (ops : Array Oper) (n : Nat) (a0 : Act) (w0 : World) (R : World → World → Prop) (D : Nat → Value → World → Prop) (listed : Array Bool) (a : Act) (w : World) : Prop where
  grow : R w0 w
  defers : a.defers = a0.defers
  size : a.tmps.size = a0.tmps.size
  far : ∀ t, (∀ i, i < n → dstOf ops i ≠ some t) → a.tmps[t]? = a0.tmps[t]?
  near : ∀ i t, i < n → listed.getD i false = true → dstOf ops i = some t → D i (a.tmps[t]?.getD undef) w
  mem : ∀ i, i < n → listed.getD i false = true → dstOf ops i = none → ∃ v, D i v w

theorem wpAny_factsS {n : Nat} {a0 : Act} {w0 : World} {R : World → World → Prop} {D : Nat → Value → World → Prop} (hok : headsOkS md ops n a0.tmps.size = true)
    (hRt : ∀ x y z, R x y → R y z → R x z) (hRr : ∀ x, R x x) (hD : ∀ i v x y, D i v x → R x y → D i v y)
    (hstep : ∀ i o, i < n → ops[i]? = some o → StepOk P md ops Q n a0 w0 R D i o)
    (hfin : ∀ a w, R w0 w → a.defers = a0.defers → a.tmps.size = a0.tmps.size → (∀ t, (∀ i, i < n → dstOf ops i ≠ some t) → a.tmps[t]? = a0.tmps[t]?) →
      (∀ i t, i < n → dstOf ops i = some t → D i (a.tmps[t]?.getD undef) w) → (∀ i, i < n → dstOf ops i = none → ∃ v, D i v w) → wpList P ops Q (ops.toList.drop n) a w) :
    ∀ (m : Nat) (listed : Array Bool) (a : Act) (w : World), unlisted listed n = m → HeadInv md ops n listed → FactsS ops n a0 w0 R D listed a w →
      wpAny P md ops Q (m + (ops.size - n)) listed a w := by
  obtain ⟨hh, hn, htail, hseq⟩ := headsOkS_spec hok
  intro m
  induction m with
  | zero =>
    intro listed a w hu inv F
    have hall := unlisted_zero hu
    have hl : listed = (Array.range ops.size).map fun i => decide (i < n) := by
      refine Array.ext (by simp [inv.size]) fun i h1 h2 => ?_
      rw [inv.size] at h1
      by_cases hi : i < n
      · have := hall i hi
        simp only [Array.getElem_map, Array.getElem_range]
        rw [Array.getD_eq_getD_getElem?, Array.getElem?_eq_getElem (by rw [inv.size]; exact h1)] at this
        simp at this
        simp [this, hi]
      · have := inv.tail i (by omega) h1
        simp only [Array.getElem_map, Array.getElem_range]
        rw [Array.getD_eq_getD_getElem?, Array.getElem?_eq_getElem (by rw [inv.size]; exact h1)] at this
        simp at this
        simp [this, hi]
    rw [Nat.zero_add]
    have hd : (ops.toList.drop n).length = ops.size - n := by simp
    rw [← hd]
    refine wpAny_of_seq (ops.toList.drop n) n listed a w (fun j => by simp) (by rw [hd, hl]; exact hseq) ?_
    exact hfin a w F.grow F.defers F.size F.far (fun i t hi hd => F.near i t hi (hall i hi) hd) fun i hi hd => F.mem i hi (hall i hi) hd
  | succ m ih =>
    intro listed a w hu inv F
    rw [show m + 1 + (ops.size - n) = (m + (ops.size - n)) + 1 by omega]
    obtain ⟨i0, hi0, hi1, hi2⟩ := unlisted_least (listed := listed) (k := n) (by omega)
    have hin0 : i0 < listed.size := by rw [inv.size]; omega
    have hun0 : listed.getD i0 true = false := getD_in hin0 hi1
    refine ⟨fun hr => ?_, fun i hi => ?_⟩
    · obtain ⟨o, ho, hedge, _⟩ := hh i0 hi0
      have : i0 ∈ Region.ready md ops listed := mem_ready.2 ⟨hun0, o, ho, fun e he hb => hi2 _ (hedge e he hb)⟩
      rw [hr] at this
      cases this
    · obtain ⟨hiun, o, ho, hall⟩ := mem_ready.1 hi
      have hisz : i < ops.size := (Array.getElem?_eq_some_iff.1 ho).1
      have hin : i < n := by
        rcases Nat.lt_or_ge i n with h | h
        · exact h
        · obtain ⟨h3, h4⟩ := htail (by omega)
          exact absurd hi (tail_waits h3 h4 (by omega) inv _ i0 rfl hi0 hun0 i h)
      obtain ⟨o', ho', hedge, hdd⟩ := hh i hin
      obtain rfl : o' = o := Option.some.inj (ho'.symm.trans ho)
      have hil : i < listed.size := by rw [inv.size]; exact hisz
      have hnext : ∀ v w', R w w' → D i v w' → wpAny P md ops Q (m + (ops.size - n)) (listed.setIfInBounds i true) (a.put o'.dst v) w' := by
        intro v w' hR hDv
        refine ih _ _ _ ?_ (inv.set hi hin) ?_
        · have := unlisted_set hil (getD_both hiun) n
          rw [if_pos hin] at this
          omega
        · cases hdst : o'.dst with
          | none =>
            have hput : a.put none v = a := rfl
            rw [hput]
            refine ⟨hRt _ _ _ F.grow hR, F.defers, F.size, F.far, fun j u hj hl hdj => ?_, fun j hj hl hdj => ?_⟩
            · by_cases hji : j = i
              · subst hji
                simp [dstOf, ho, hdst] at hdj
              · rw [getD_set_other (Ne.symm hji)] at hl
                exact hD _ _ _ _ (F.near j u hj hl hdj) hR
            · by_cases hji : j = i
              · subst hji
                exact ⟨v, hDv⟩
              · rw [getD_set_other (Ne.symm hji)] at hl
                obtain ⟨u, hu⟩ := F.mem j hj hl hdj
                exact ⟨u, hD _ _ _ _ hu hR⟩
          | some t =>
            obtain ⟨htsz, hdiff⟩ := hdd t hdst
            have htl : t < a.tmps.size := by rw [F.size]; exact htsz
            refine ⟨hRt _ _ _ F.grow hR, F.defers, by simp [Act.put, F.size], fun u hu => ?_, fun j u hj hl hdj => ?_, fun j hj hl hdj => ?_⟩
            · have hne : t ≠ u := fun h => hu i hin (by simp [dstOf, ho, hdst, h])
              simp only [Act.put]
              rw [Array.getElem?_setIfInBounds_ne hne]
              exact F.far u hu
            · by_cases hji : j = i
              · subst hji
                have : u = t := by simpa [dstOf, ho, hdst] using hdj.symm
                subst this
                simp only [Act.put]
                rw [Array.getElem?_setIfInBounds_self_of_lt htl]
                exact hDv
              · have hne : t ≠ u := fun h => hdiff j hj hji (by rw [hdj, h])
                rw [getD_set_other (Ne.symm hji)] at hl
                simp only [Act.put]
                rw [Array.getElem?_setIfInBounds_ne hne]
                exact hD _ _ _ _ (F.near j u hj hl hdj) hR
            · by_cases hji : j = i
              · subst hji
                simp [dstOf, ho, hdst] at hdj
              · rw [getD_set_other (Ne.symm hji)] at hl
                obtain ⟨u, hu⟩ := F.mem j hj hl hdj
                exact ⟨u, hD _ _ _ _ hu hR⟩
      have hs := hstep i o' hin ho a w F.grow F.defers F.size F.far (fun e he hb u hd => F.near e.on u (by have := hedge e he hb; omega) (hall e he hb) hd)
      unfold wpOp
      simp only [ho]
      split
      · rename_i hw
        rw [if_pos hw] at hs
        exact .inl (Oper.wp_mono (fun a' w' ⟨v, ha, hR, hDv⟩ => by rw [ha]; exact hnext v w' hR hDv) hs)
      · rename_i hw
        rw [if_neg hw] at hs
        exact hnext undef w (hRr w) hs

theorem wp_carryS {o : Oper} {a b : Act} {w : World} {T : Value → World → Prop} (he : execOp b.eval o = execOp a.eval o) (hd : o.dst = none)
    (h : o.wp P b w (fun a' w' => a'.defers = b.defers ∧ T (a'.tmps[0]?.getD undef) w') (fun _ _ _ => False)) : o.wp P a w (fun a' w' => ∃ v, a' = a.put o.dst v ∧ T v w') Q := by
  have hput : ∀ v, b.put o.dst v = b := fun v => by rw [hd]; rfl
  have hputa : ∀ v, a.put o.dst v = a := fun v => by rw [hd]; rfl
  unfold Oper.wp at *
  rw [he] at h
  generalize (execOp a.eval o).run P w = r at *
  cases r with
  | ok n w' =>
    cases n <;> simp only [Oper.upon] at h ⊢
    case value u => rw [hput] at h; exact ⟨b.tmps[0]?.getD undef, (hputa _).trans (hputa _).symm, h.2⟩
    case skip => rw [hput] at h; exact ⟨b.tmps[0]?.getD undef, (hputa _).trans (hputa _).symm, h.2⟩
    case defer d =>
      exfalso
      have h1 := h.1
      rw [hd] at h1
      have := congrArg List.length h1
      simp [Act.put] at this
    case enter f args =>
      refine Calls.mono h fun e w'' hh => ?_
      cases e with
      | returned u => exact ⟨b.tmps[0]?.getD undef, (hputa _).trans (hputa _).symm, by have := hh.2; rwa [hput] at this⟩
      | panicked c => exact hh.elim
      | outgrown => obtain ⟨_, _, h1⟩ := hh; exact h1.elim
    case row row args => exact Rows.mono h fun u w'' hh => ⟨b.tmps[0]?.getD undef, (hputa _).trans (hputa _).symm, by have := hh.2; rwa [hput] at this⟩
  | halt x w' =>
    cases x <;> simp only [Oper.upon] at h ⊢

theorem finVC_elimS {D : Nat → Value → World → Prop} {w : World} {a : Act} {G : Act → Prop} {sz : Nat} (hsz : a.tmps.size = sz) :
    ∀ (l : List Oper) (j : Nat) (b : Act), b.tmps.size = sz → b.defers = a.defers →
      (∀ k x, l[k]? = some x → (∀ t, x.dst = some t → t < sz ∧ D (j + k) (a.tmps[t]?.getD undef) w) ∧ (x.dst = none → ∃ v, D (j + k) v w)) →
      (∀ t, (∃ x, x ∈ l ∧ x.dst = some t) ∨ b.tmps[t]? = a.tmps[t]?) → finVC D w l j b G → G a
  | [], j, b, hb, hbd, _, hag, h => by
    have : b = a := by
      obtain ⟨bt, bd⟩ := b
      obtain ⟨at', ad⟩ := a
      have e1 : bt = at' := Array.ext_getElem? fun t => by
        rcases hag t with ⟨x, hx, _⟩ | h
        · cases hx
        · exact h
      subst e1
      exact congrArg _ hbd
    rw [← this]; exact h
  | x :: l, j, b, hb, hbd, hD, hag, h => by
    unfold finVC at h
    obtain ⟨h1, h2⟩ := hD 0 x (by simp)
    rw [Nat.add_zero] at h1 h2
    have hrest : ∀ k y, l[k]? = some y → (∀ t, y.dst = some t → t < sz ∧ D (j + 1 + k) (a.tmps[t]?.getD undef) w) ∧ (y.dst = none → ∃ v, D (j + 1 + k) v w) := fun k y hk => by
      have := hD (k + 1) y (by simpa using hk)
      rwa [show j + (k + 1) = j + 1 + k by omega] at this
    cases hd : x.dst with
    | none =>
      obtain ⟨v, hv⟩ := h2 hd
      have h3 := h v hv
      rw [hd] at h3
      refine finVC_elimS hsz l (j + 1) b hb hbd hrest (fun u => ?_) h3
      rcases hag u with ⟨y, hy, hyd⟩ | h
      · rcases List.mem_cons.1 hy with rfl | hy
        · rw [hd] at hyd; cases hyd
        · exact .inl ⟨y, hy, hyd⟩
      · exact .inr h
    | some t =>
      obtain ⟨htsz, h0⟩ := h1 t hd
      have h3 := h _ h0
      rw [hd] at h3
      refine finVC_elimS hsz l (j + 1) (b.put (some t) (a.tmps[t]?.getD undef)) (by simp [Act.put, hb]) hbd hrest (fun u => ?_) h3
      simp only [Act.put]
      by_cases hut : t = u
      · subst hut
        right
        rw [Array.getElem?_setIfInBounds_self_of_lt (by rw [hb]; exact htsz)]
        rw [Array.getElem?_eq_getElem (by rw [hsz]; exact htsz)]
        rfl
      · rcases hag u with ⟨y, hy, hyd⟩ | h
        · rcases List.mem_cons.1 hy with rfl | hy
          · rw [hd] at hyd; exact absurd (by injection hyd) hut
          · exact .inl ⟨y, hy, hyd⟩
        · right
          rw [Array.getElem?_setIfInBounds_ne hut]
          exact h

/-- THE THEOREM FOR WALKS: n heads, stores among them, in whatever order, then the rest in the text's order. -/
theorem wp_region_litS {id : Nat} {l : List Oper} {a0 : Act} {w : World} (n : Nat) (deps : List (List (Nat × Tmp))) (R : World → World → Prop) (D : Nat → Value → World → Prop) (hm : P.follows .mixedOrders = true)
    (hok : (headsOkS .any l.toArray n a0.tmps.size && (depsOk .any l.toArray (l.take n) deps && Region.noSelect l.toArray)) = true)
    (hRt : ∀ x y z, R x y → R y z → R x z) (hRr : ∀ x, R x x) (hD : ∀ i v x y, D i v x → R x y → D i v y)
    (hstep : StepsLit P l.toArray a0 w.drew R D deps 0 (l.take n))
    (hfin : ∀ w', R w.drew w' → finVC D w' (l.take n) 0 a0 fun a => wpList P l.toArray Q (l.drop n) a w') :
    (Code.region id l.toArray true).wp P Q a0 w := by
  simp only [Bool.and_eq_true] at hok
  obtain ⟨h1, h2, h3⟩ := hok
  obtain ⟨hh, hn, _, _⟩ := headsOkS_spec h1
  have hlen : (l.take n).length = n := by simp at hn ⊢; omega
  have htake : ∀ {k : Nat} {x : Oper}, (l.take n)[k]? = some x → k < n ∧ l.toArray[k]? = some x := fun {k x} hk => by
    have hkn : k < n := by rw [← hlen]; exact (List.getElem?_eq_some_iff.1 hk).1
    exact ⟨hkn, by rw [List.getElem?_take_of_lt hkn] at hk; simpa using hk⟩
  have hback : ∀ {k : Nat} {x : Oper}, k < n → l.toArray[k]? = some x → (l.take n)[k]? = some x := fun {k x} hk hx => by
    rw [List.getElem?_take_of_lt hk]
    simpa using hx
  simp only [depsOk, Bool.and_eq_true, decide_eq_true_eq] at h2
  obtain ⟨_, h2⟩ := h2
  have hsteps : ∀ i o, i < n → l.toArray[i]? = some o → StepOk P .any l.toArray Q n a0 w.drew R D i o := by
    intro i o hin hoi a w1 hR hdef hsize hfar hdep
    have ho := hback hin hoi
    obtain ⟨d, hd, hs⟩ := hstep.at_ i o ho
    have hs := hs w1 hR
    rw [Nat.zero_add] at hs
    have hsel := Region.noSelect_spec h3 i o
    obtain ⟨o', ho', hedge, hdd⟩ := hh i hin
    obtain rfl : o' = o := Option.some.inj (ho'.symm.trans hoi)
    have hz : (o', d) ∈ (l.take n).zip deps := by
      refine List.mem_iff_getElem?.2 ⟨i, ?_⟩
      rw [List.getElem?_zip_eq_some]
      exact ⟨ho, hd⟩
    have h4 := List.all_eq_true.1 h2 _ hz
    simp only [Bool.and_eq_true] at h4
    obtain ⟨h5, h6⟩ := h4
    obtain ⟨b, hb1, hb2, hb3, hb4⟩ := depV_elim (o := o') (ops := l.toArray) (a := a) hsize d a0 rfl hdef.symm
      (fun j u hu => by
        have h7 := List.all_eq_true.1 h6 _ hu
        simp only [Bool.and_eq_true, decide_eq_true_eq] at h7
        obtain ⟨⟨h8, h9⟩, h10⟩ := h7
        rw [hlen] at h9
        obtain ⟨e, he, hb⟩ := Array.any_eq_true'.1 h10
        simp only [Bool.and_eq_true, beq_iff_eq] at hb
        refine ⟨?_, ?_⟩
        · obtain ⟨x', hx', _, hdx⟩ := hh j h9
          simp only [dstOf, hx', Option.bind_some] at h8
          exact (hdx u h8).1
        · have := hdep e he hb.2 u (by rw [hb.1]; exact h8)
          rw [hb.1] at this
          exact this)
      (fun u hu => by
        by_cases hx : ∃ j, j < n ∧ dstOf l.toArray j = some u
        · obtain ⟨j, hj, hjd⟩ := hx
          obtain ⟨x, hx', _⟩ := hh j hj
          have hxd : x.dst = some u := by simpa [dstOf, hx'] using hjd
          have h7 := List.all_eq_true.1 h5 (x, j) (List.mk_mem_zipIdx_iff_getElem?.2 (hback hj hx'))
          simp only [hxd] at h7
          have h8 : looked l.toArray o' x = true := by simp [looked, hxd, hu]
          simp only [h8, Bool.not_true, Bool.false_or] at h7
          exact .inl ⟨j, by simpa using h7⟩
        · exact .inr (hfar u fun j hj hd => hx ⟨j, hj, hd⟩).symm)
      hs
    rw [wanted_agree (fun u hu => (hb3 u hu).symm)]
    cases hwd : Region.wanted o' (yielded l.toArray b.tmps) with
    | true =>
      rw [hwd] at hb4
      rw [if_pos rfl]
      cases hdst : o'.dst with
      | none =>
        simp only [hdst, Option.getD_none] at hb4
        have := wp_carryS (T := fun v w' => R w1 w' ∧ D i v w') (Q := Q) (exec_agree (fun cs bb => hsel cs bb hoi) hb3) hdst hb4
        rwa [hdst] at this
      | some t =>
        simp only [hdst, Option.getD_some] at hb4
        have := wp_carry (T := fun v w' => R w1 w' ∧ D i v w') (Q := Q) (exec_agree (fun cs bb => hsel cs bb hoi) hb3) hdst (by rw [hb1]; exact (hdd t hdst).1) hb4
        rwa [hdst] at this
    | false =>
      rw [hwd] at hb4
      rw [if_neg (by simp)]
      exact hb4
  refine wp_region_any hm ?_
  have h := wpAny_factsS (P := P) (Q := Q) (w0 := w.drew) h1 hRt hRr hD hsteps (fun a w' hR hdef hsize hfar hnear hmem => by
      refine finVC_elimS (a := a) hsize (l.take n) 0 a0 rfl hdef.symm (fun k x hk => ?_) (fun u => ?_) (hfin w' hR)
      · obtain ⟨hkn, hkx⟩ := htake hk
        obtain ⟨x', hx', _, hdx⟩ := hh k hkn
        obtain rfl : x' = x := Option.some.inj (hx'.symm.trans hkx)
        rw [Nat.zero_add]
        exact ⟨fun t ht => ⟨(hdx t ht).1, hnear k t hkn (by simp [dstOf, hkx, ht])⟩, fun ht => hmem k hkn (by simp [dstOf, hkx, ht])⟩
      · by_cases hx : ∃ x, x ∈ l.take n ∧ x.dst = some u
        · exact .inl hx
        · refine .inr (hfar u fun j hj hd => hx ?_).symm
          obtain ⟨x, hxo, _⟩ := hh j hj
          exact ⟨x, List.mem_iff_getElem?.2 ⟨j, hback hj hxo⟩, by simpa [dstOf, hxo] using hd⟩) n (Array.replicate l.toArray.size false) a0 w.drew (unlisted_fresh _ _)
    ⟨by simp, fun j oj _ hl => (by rw [getD_replicate_false] at hl; cases hl), fun t _ ht => getD_in (by simpa using ht) (getD_replicate_false _ _)⟩
    ⟨hRr _, rfl, rfl, fun _ _ => rfl, fun i t _ hl _ => (by rw [getD_replicate_false] at hl; cases hl), fun i _ hl _ => (by rw [getD_replicate_false] at hl; cases hl)⟩
  rw [show n + (l.toArray.size - n) = l.toArray.size by omega] at h
  exact h
end
end Go.Proofs.Ythlihchndmbkaaa
