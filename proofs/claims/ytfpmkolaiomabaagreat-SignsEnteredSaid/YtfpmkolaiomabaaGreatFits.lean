/- Fits: mathematics: taking each seen move at once is as good as any other way; when entries clash; what the specification's answer for an entry is. -/
import Derived.Test.YtfpmkolaiomabaaGreatAgrees
import Derived.Test.YtfpmkolaiomabaaGreatEntry
import Derived.Test.YtfpmkolaiomabaaGreatAlike
namespace Go.Proofs.YtfpmkolaiomabaaGreat

/-- the specification's search -/
def fitsD : List Int → List Int → Int → Bool
  | [], ss, _ => ss.isEmpty
  | _ :: ms, [], lost => decide (0 < lost) && fitsD ms [] (lost - 1)
  | m :: ms, s :: ss, lost => (hasD s m && fitsD ms ss lost) || (decide (0 < lost) && fitsD ms (s :: ss) (lost - 1))
/-- what is left of the sets when each move takes the first one that it can -/
def remF : List Int → List Int → List Int
  | ss, [] => ss
  | [], _ :: _ => []
  | s :: ss, m :: ms => if hasD s m = true then remF ss ms else remF (s :: ss) ms
theorem remF_nil : ∀ ms : List Int, remF [] ms = []
  | [] => rfl
  | _ :: _ => rfl
theorem found_rem (ss : List Int) : ∀ (ms : List Int) (n : Nat), n ≤ ss.length → ms.foldl (stepF ss) n + (remF (ss.drop n) ms).length = ss.length
  | [], n, h => by simp only [List.foldl_nil, remF, List.length_drop]; omega
  | d :: ms, n, h => by
    rw [List.foldl_cons]
    by_cases hn : n < ss.length
    · have hx : ss[n]? = some ss[n] := List.getElem?_eq_getElem hn
      have hs := stepF_some (d := d) hx
      rw [List.drop_eq_getElem_cons hn]
      by_cases hh : hasD ss[n] d = true
      · rw [if_pos hh] at hs
        rw [hs]
        simp only [remF, if_pos hh]
        exact found_rem ss ms (n + 1) hn
      · rw [if_neg hh] at hs
        rw [hs]
        simp only [remF, if_neg hh]
        rw [← List.drop_eq_getElem_cons hn]
        exact found_rem ss ms n h
    · rw [stepF_none hn, List.drop_of_length_le (by omega), remF_nil]
      have := found_rem ss ms n h
      rw [List.drop_of_length_le (by omega), remF_nil] at this
      exact this
theorem found_all {ss ms : List Int} : foundD ss ms = ss.length ↔ remF ss ms = [] := by
  have := found_rem ss ms 0 (Nat.zero_le _)
  rw [List.drop_zero] at this
  unfold foundD
  rw [← List.length_eq_zero_iff]
  omega
theorem rem_front (m : Int) {ms : List Int} (ih : ∀ s ss, remF (s :: ss) ms = [] → remF ss ms = []) : ∀ ss, remF ss ms = [] → remF ss (m :: ms) = []
  | [], _ => rfl
  | t :: ts, h => by
    simp only [remF]
    split
    · exact ih t ts h
    · exact h
theorem rem_less : ∀ (ms : List Int) (s : Int) (ss : List Int), remF (s :: ss) ms = [] → remF ss ms = []
  | [], s, ss, h => by cases h
  | m :: ms, s, ss, h => by
    simp only [remF] at h
    split at h
    · exact rem_front m (rem_less ms) ss h
    · exact rem_front m (rem_less ms) ss (rem_less ms s ss h)
theorem rem_len : ∀ (ms ss : List Int), remF ss ms = [] → ss.length ≤ ms.length
  | [], ss, h => by simp only [remF] at h; rw [h]; exact Nat.le_refl _
  | m :: ms, [], _ => Nat.zero_le _
  | m :: ms, s :: ss, h => by
    simp only [remF] at h
    split at h
    · have := rem_len ms ss h; simp only [List.length_cons]; omega
    · have := rem_len ms (s :: ss) h; simp only [List.length_cons] at *; omega
theorem fits_rem : ∀ (ms ss : List Int) (lost : Int), 0 ≤ lost → (fitsD ms ss lost = true ↔ remF ss ms = [] ∧ (ms.length : Int) - ss.length ≤ lost)
  | [], ss, lost, h => by
    cases ss with
    | nil => simp [fitsD, remF]; omega
    | cons s ss => simp [fitsD, remF]
  | m :: ms, [], lost, h => by
    simp only [fitsD, remF, Bool.and_eq_true, decide_eq_true_eq, true_and, List.length_cons, List.length_nil]
    by_cases h0 : 0 < lost
    · rw [fits_rem ms [] (lost - 1) (by omega), remF_nil]
      simp only [List.length_nil, true_and, h0, eq_self]
      omega
    · simp only [h0, false_and, false_iff]; omega
  | m :: ms, s :: ss, lost, h => by
    simp only [fitsD, remF, Bool.or_eq_true, Bool.and_eq_true, decide_eq_true_eq, List.length_cons]
    by_cases hh : hasD s m = true
    · rw [if_pos hh, fits_rem ms ss lost h]
      constructor
      · rintro (⟨_, h1, h2⟩ | ⟨h0, h1⟩)
        · exact ⟨h1, by omega⟩
        · rw [fits_rem ms (s :: ss) (lost - 1) (by omega)] at h1
          exact ⟨rem_less ms s ss h1.1, by have := h1.2; simp only [List.length_cons] at this; omega⟩
      · rintro ⟨h1, h2⟩
        exact .inl ⟨hh, h1, by omega⟩
    · rw [if_neg hh]
      constructor
      · rintro (⟨h1, _⟩ | ⟨h0, h1⟩)
        · exact absurd h1 hh
        · rw [fits_rem ms (s :: ss) (lost - 1) (by omega)] at h1
          exact ⟨h1.1, by have := h1.2; simp only [List.length_cons] at this; omega⟩
      · rintro ⟨h1, h2⟩
        have := rem_len ms (s :: ss) h1
        simp only [List.length_cons] at this
        refine .inr ⟨by omega, ?_⟩
        rw [fits_rem ms (s :: ss) (lost - 1) (by omega)]
        exact ⟨h1, by simp only [List.length_cons]; omega⟩
theorem fits_moves {s : SeenD} (h : 0 ≤ s.lost) (ms : List Int) : fitsD ms s.moves s.lost = agreesMovesD s ms := by
  rw [Bool.eq_iff_iff, fits_rem ms s.moves s.lost h]
  unfold agreesMovesD
  rw [Bool.and_eq_true, decide_eq_true_eq, decide_eq_true_eq, found_all]
  constructor
  · rintro ⟨h1, h2⟩; exact ⟨h1, by rw [found_all.2 h1]; exact h2⟩
  · rintro ⟨h1, h2⟩; rw [found_all.2 h1] at h2; exact ⟨h1, h2⟩

/-- Shown of the specification -/
def rShownD (s : SeenD) (f : FormD) : Bool := hasD s.rights (f.right + 1) && (hasD s.lefts (f.left + 1) && (hasD s.faces f.face && (inB f.column s.cl s.ch && (inB f.row s.rl s.rh && fitsD f.moves s.moves s.lost))))
theorem shown_agrees {s : SeenD} (h : 0 ≤ s.lost) (f : FormD) : rShownD s f = agreesAsD s f := by
  unfold rShownD agreesAsD
  rw [fits_moves h]
  cases hasD s.rights (f.right + 1) <;> cases hasD s.lefts (f.left + 1) <;> cases hasD s.faces f.face <;> cases inB f.column s.cl s.ch <;> cases inB f.row s.rl s.rh <;> rfl
/-- Agrees of the specification -/
def rAgreesD (s : SeenD) (x : EntryD) : Bool := (bits .and .i64 x.regions s.regions != 0) && (decide (max x.low s.al ≤ min x.high s.ah) && (rShownD s x.form || rShownD s (mirrorD x.form)))
theorem okSeen_lost {s : SeenD} (h : okSeen s = true) : 0 ≤ s.lost ∧ s.lost ≤ 6 := by
  simp only [okSeen, Bool.and_eq_true] at h
  exact inB_iff.1 h.2.2.2.2.2.2.1
theorem okSeen_ages {s : SeenD} (h : okSeen s = true) : s.al ≤ s.ah := by
  simp only [okSeen, Bool.and_eq_true, decide_eq_true_eq] at h
  exact h.2.2.2.2.1
theorem okEntry_ages {x : EntryD} (h : okEntry x = true) : 0 ≤ x.low ∧ x.low ≤ x.high ∧ x.high ≤ 120 := by
  simp only [okEntry, Bool.and_eq_true, decide_eq_true_eq] at h
  exact ⟨h.2.2.2.1, h.2.2.2.2.1, h.2.2.2.2.2.1⟩
theorem okEntry_okForm {x : EntryD} (h : okEntry x = true) : okForm x.form = true := by
  simp only [okEntry, Bool.and_eq_true] at h
  exact h.2.2.2.2.2.2
theorem rAgrees_eq {s : SeenD} {x : EntryD} (hs : okSeen s = true) (hx : okEntry x = true) : rAgreesD s x = agreesD s x := by
  have h1 := okSeen_ages hs
  have h2 := okEntry_ages hx
  have hm : decide (max x.low s.al ≤ min x.high s.ah) = meetD x.low x.high s.al s.ah := by
    unfold meetD
    rw [← Bool.decide_and, decide_eq_decide]
    omega
  unfold rAgreesD agreesD
  rw [hm, shown_agrees (okSeen_lost hs).1, shown_agrees (okSeen_lost hs).1]
theorem agrees_canon (s : SeenD) {x : EntryD} (hx : okEntry x = true) : agreesD s (canonE x) = agreesD s x := by
  have hf := okEntry_okForm hx
  unfold agreesD canonE
  dsimp only
  rcases canon_cases x.form with h | h <;> rw [h]
  rw [mirror_mirror hf, Bool.or_comm (agreesAsD s (mirrorD x.form))]

theorem alike_iff {x y : EntryD} (hid : x.id = y.id) : alikeD x y = true ↔ canonE x = canonE y := by
  obtain ⟨i, s, r, f, lo, hi⟩ := x
  obtain ⟨i', s', r', f', lo', hi'⟩ := y
  dsimp only at hid
  subst hid
  simp only [alikeD, canonE, Bool.and_eq_true, beq_iff_eq, decide_eq_true_eq, EntryD.mk.injEq, true_and]
  constructor
  · rintro ⟨⟨⟨h1, h2⟩, h3, h4⟩, h5⟩
    exact ⟨h1, h2, cmpF_eq0 h5, h3, h4⟩
  · rintro ⟨h1, h2, h3, h4, h5⟩
    exact ⟨⟨⟨h1, h2⟩, h4, h5⟩, by rw [h3]; exact cmpF_self _⟩
/-- do the entries clash? -/
def clashD (l : List EntryD) : Bool := (readD [] l).isNone
theorem clash_true {l : List EntryD} {x y : EntryD} (hx : x ∈ l) (hy : y ∈ l) (hid : x.id = y.id) (ha : alikeD x y = false) : clashD l = true := by
  cases h : clashD l with
  | true => rfl
  | false =>
    have : (readD [] l).isSome = true := by
      unfold clashD at h
      cases hr : readD [] l with
      | none => rw [hr] at h; cases h
      | some b => rfl
    have := (alike_iff hid).2 (readD_isSome.1 this x hx y hy hid)
    rw [ha] at this
    cases this
theorem clash_false {l : List EntryD} (h : ∀ (i k : Nat) x y, k < i → l[i]? = some x → l[k]? = some y → x.id = y.id → alikeD x y = true) : clashD l = false := by
  have : (readD [] l).isSome = true := readD_isSome.2 fun x hx y hy hid => by
    obtain ⟨i, hi⟩ := List.getElem?_of_mem hx
    obtain ⟨k, hk⟩ := List.getElem?_of_mem hy
    rcases Nat.lt_trichotomy k i with hlt | rfl | hlt
    · exact (alike_iff hid).1 (h i k x y hlt hi hk hid)
    · rw [hi] at hk; injection hk with hk; rw [hk]
    · exact ((alike_iff hid.symm).1 (h k i y x hlt hk hi hid.symm)).symm
  unfold clashD
  cases hr : readD [] l with
  | none => rw [hr] at this; cases this
  | some b => rfl
theorem bookErr_eq (l : List EntryD) : bookErr l = if (decide (l.length ≤ 40) && l.all okEntry) = true then (if clashD l = true then 12 else 0) else 11 := by
  unfold bookErr clashD
  split
  · cases readD [] l <;> rfl
  · rfl
end Go.Proofs.YtfpmkolaiomabaaGreat
