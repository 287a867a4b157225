/- Made: mathematics: what a signer makes of an entry agrees with it, whatever moves are missed and whatever else is held possible. -/
import Derived.Test.YtfpmkolaiomabaaGreatFits
import Derived.Test.YtfpmkolaiomabaaGreatFind
namespace Go.Proofs.YtfpmkolaiomabaaGreat

/-- '|' of two sets -/
def orI (a b : Int) : Int := ((a.toNat ||| b.toNat : Nat) : Int)
theorem or_i64 (a b : Nat) (ha : a < 9223372036854775808) (hb : b < 9223372036854775808) : bits .or .i64 (a : Int) (b : Int) = ((a ||| b : Nat) : Int) := by
  have h1 : a ||| b < 2 ^ 63 := Nat.or_lt_two_pow (by omega) (by omega)
  have e1 : ∀ n : Nat, n < 9223372036854775808 → (BitVec.ofInt 64 (n : Int)).toNat = n := fun n hn => by
    rw [BitVec.ofInt_natCast, BitVec.toNat_ofNat]
    exact Nat.mod_eq_of_lt (by omega)
  show IntKind.i64.wrap ((BitVec.ofInt 64 (a : Int) ||| BitVec.ofInt 64 (b : Int)).toNat : Int) = _
  rw [BitVec.toNat_or, e1 a ha, e1 b hb]
  exact IntWalk.i64_in _ (by omega)
theorem bits_or {a b : Int} (ha : 0 ≤ a) (hb : 0 ≤ b) (ha' : a < 9223372036854775808) (hb' : b < 9223372036854775808) : bits .or .i64 a b = orI a b := by
  obtain ⟨n, rfl⟩ := Int.eq_ofNat_of_zero_le ha
  obtain ⟨m, rfl⟩ := Int.eq_ofNat_of_zero_le hb
  rw [or_i64 n m (by omega) (by omega)]
  rfl
theorem hasD_bit {s e : Int} (h : 0 ≤ s) : hasD s e = s.toNat.testBit e.toNat := by
  obtain ⟨n, rfl⟩ := Int.eq_ofNat_of_zero_le h
  rw [Nat.testBit_eq_decide_div_mod_eq]
  unfold hasD
  rw [decide_eq_decide, Int.toNat_natCast, show ((2 : Int) ^ e.toNat) = ((2 ^ e.toNat : Nat) : Int) by simp]
  omega
theorem orI_nonneg (a b : Int) : 0 ≤ orI a b := by unfold orI; omega
theorem orI_lt {a b : Int} {k : Nat} (ha : 0 ≤ a) (hb : 0 ≤ b) (ha' : a < 2 ^ k) (hb' : b < 2 ^ k) : orI a b < 2 ^ k := by
  obtain ⟨n, rfl⟩ := Int.eq_ofNat_of_zero_le ha
  obtain ⟨m, rfl⟩ := Int.eq_ofNat_of_zero_le hb
  obtain ⟨K, hK⟩ : ∃ K : Nat, K = 2 ^ k := ⟨_, rfl⟩
  have e : ((2 : Int) ^ k) = (K : Int) := by rw [hK]; simp
  rw [e] at ha' hb' ⊢
  have := Nat.or_lt_two_pow (n := k) (x := n) (y := m) (by rw [← hK]; omega) (by rw [← hK]; omega)
  rw [← hK] at this
  unfold orI
  simp only [Int.toNat_natCast]
  omega
theorem hasD_orI {a b e : Int} (ha : 0 ≤ a) (hb : 0 ≤ b) : hasD (orI a b) e = (hasD a e || hasD b e) := by
  rw [hasD_bit (orI_nonneg a b), hasD_bit ha, hasD_bit hb]
  unfold orI
  rw [Int.toNat_natCast, Nat.testBit_or]
theorem hasD_pow (k : Nat) (e : Int) (h : e.toNat = k) : hasD (2 ^ k) e = true := by
  subst h
  have hp : (0 : Int) < 2 ^ e.toNat := Int.pow_pos (by omega)
  unfold hasD
  rw [Int.ediv_self (by omega)]
  rfl
theorem orI_pos {a b : Int} (hb : 0 < b) (ha : 0 ≤ a) : 1 ≤ orI a b := by
  obtain ⟨n, rfl⟩ := Int.eq_ofNat_of_zero_le ha
  obtain ⟨m, rfl⟩ := Int.eq_ofNat_of_zero_le (show 0 ≤ b by omega)
  have : m ≤ n ||| m := Nat.right_le_or
  unfold orI
  simp only [Int.toNat_natCast]
  omega
theorem and_meets {a b : Int} {e : Int} (ha : 0 ≤ a) (hb : 0 ≤ b) (ha' : a < 9223372036854775808) (hb' : b < 9223372036854775808) (h1 : hasD a e = true) (h2 : hasD b e = true) : (bits .and .i64 a b != 0) = true := by
  rw [hasD_bit ha] at h1
  rw [hasD_bit hb] at h2
  obtain ⟨n, rfl⟩ := Int.eq_ofNat_of_zero_le ha
  obtain ⟨m, rfl⟩ := Int.eq_ofNat_of_zero_le hb
  rw [and_i64 n m (by omega) (by omega)]
  simp only [Int.toNat_natCast] at h1 h2
  have h3 : (n &&& m).testBit e.toNat = true := by rw [Nat.testBit_and, h1, h2]; rfl
  rw [bne_iff_ne]
  intro h0
  have : n &&& m = 0 := by omega
  rw [this, Nat.zero_testBit] at h3
  cases h3

/-- the set that is written for a move, where n moves were written before -/
def setOf (ss : List Int) (n : Nat) (m : Int) : Int := if n < ss.length then orI (2 ^ m.toNat) (ss.getD n 0) else 2 ^ m.toNat
/-- how many moves are missed, and what is written, after one more move at place k -/
def stepMade (ss : List Int) (q : Int) (k : Nat) (st : Int × List Int) (m : Int) : Int × List Int :=
  if hasD q k = true then (st.1 + 1, st.2) else (st.1, st.2 ++ [setOf ss st.2.length m])
def madeTo (ss : List Int) (q : Int) (ms : List Int) : Nat → Int × List Int
  | 0 => (0, [])
  | k + 1 => match ms[k]? with
    | some m => stepMade ss q k (madeTo ss q ms k) m
    | none => madeTo ss q ms k
theorem madeTo_succ {ss : List Int} {q : Int} {ms : List Int} {k : Nat} {m : Int} (h : ms[k]? = some m) : madeTo ss q ms (k + 1) = stepMade ss q k (madeTo ss q ms k) m := by
  simp only [madeTo, h]
theorem rem_append : ∀ (ms ns ss : List Int), remF ss (ms ++ ns) = remF (remF ss ms) ns
  | [], ns, ss => by rfl
  | m :: ms, ns, [] => by rw [List.cons_append, remF_nil, remF_nil, remF_nil]
  | m :: ms, ns, s :: ss => by
    simp only [List.cons_append, remF]
    split
    · exact rem_append ms ns ss
    · exact rem_append ms ns (s :: ss)
theorem rem_snoc (x : Int) : ∀ (ms ss : List Int), remF ss ms = [] → remF (ss ++ [x]) ms = [x] ∨ remF (ss ++ [x]) ms = []
  | [], ss, h => by simp only [remF] at h; subst h; exact .inl rfl
  | m :: ms, [], _ => by
    simp only [List.nil_append, remF]
    split
    · exact .inr (remF_nil ms)
    · exact rem_snoc x ms [] (remF_nil ms)
  | m :: ms, s :: ss, h => by
    simp only [List.cons_append, remF] at h ⊢
    split at h
    · rename_i hh; rw [if_pos hh]; exact rem_snoc x ms ss h
    · rename_i hh; rw [if_neg hh]; exact rem_snoc x ms (s :: ss) h
theorem rem_one {x m : Int} (h : hasD x m = true) {ss ms : List Int} (hr : remF ss ms = []) : remF (ss ++ [x]) (ms ++ [m]) = [] := by
  rw [rem_append]
  rcases rem_snoc x ms ss hr with e | e <;> rw [e]
  · simp only [remF, if_pos h]
  · exact remF_nil _
theorem pow_255 {m : Int} (h0 : 0 ≤ m) (h7 : m ≤ 7) : (1 : Int) ≤ 2 ^ m.toNat ∧ (2 : Int) ^ m.toNat ≤ 128 := by
  have : m.toNat ≤ 7 := by omega
  generalize m.toNat = k at this
  match k, this with
  | 0, _ | 1, _ | 2, _ | 3, _ | 4, _ | 5, _ | 6, _ | 7, _ => decide
theorem setOf_in {ss : List Int} {n : Nat} {m : Int} (hs : ∀ x ∈ ss, 1 ≤ x ∧ x ≤ 255) (h0 : 0 ≤ m) (h7 : m ≤ 7) : (1 ≤ setOf ss n m ∧ setOf ss n m ≤ 255) ∧ hasD (setOf ss n m) m = true := by
  have hp := pow_255 h0 h7
  have hb := hasD_pow m.toNat m rfl
  unfold setOf
  split
  · rename_i hn
    have hx : ss.getD n 0 ∈ ss := by
      rw [List.getD_eq_getElem?_getD, List.getElem?_eq_getElem hn]
      exact List.getElem_mem hn
    obtain ⟨x0, x1⟩ := hs _ hx
    refine ⟨⟨?_, ?_⟩, ?_⟩
    · have := orI_pos (a := 2 ^ m.toNat) (b := ss.getD n 0) (by omega) (by omega)
      exact this
    · have := orI_lt (a := 2 ^ m.toNat) (b := ss.getD n 0) (k := 8) (by omega) (by omega) (by rw [show (2 : Int) ^ 8 = 256 from rfl]; omega) (by rw [show (2 : Int) ^ 8 = 256 from rfl]; omega)
      rw [show (2 : Int) ^ 8 = 256 from rfl] at this
      omega
    · rw [hasD_orI (by omega) (by omega), hb]; rfl
  · exact ⟨⟨hp.1, by omega⟩, hb⟩
theorem made_facts {ss : List Int} {q : Int} {ms : List Int} (hs : ∀ x ∈ ss, 1 ≤ x ∧ x ≤ 255) (hm : ∀ x ∈ ms, 0 ≤ x ∧ x ≤ 7) : ∀ k, k ≤ ms.length →
    remF (madeTo ss q ms k).2 (ms.take k) = [] ∧ ((madeTo ss q ms k).2.length : Int) + (madeTo ss q ms k).1 = k ∧ 0 ≤ (madeTo ss q ms k).1 ∧ ∀ x ∈ (madeTo ss q ms k).2, 1 ≤ x ∧ x ≤ 255
  | 0, _ => ⟨rfl, rfl, Int.le_refl _, fun x hx => by cases hx⟩
  | k + 1, hk => by
    obtain ⟨h1, h2, h3, h4⟩ := made_facts (q := q) hs hm k (by omega)
    have hx : ms[k]? = some ms[k] := List.getElem?_eq_getElem (by omega)
    obtain ⟨hm0, hm7⟩ := hm _ (List.getElem_mem (by omega : k < ms.length))
    rw [madeTo_succ hx, take_snoc hx]
    generalize ms[k] = m at hm0 hm7 ⊢
    obtain ⟨st, hst⟩ : ∃ st, st = madeTo ss q ms k := ⟨_, rfl⟩
    rw [← hst] at h1 h2 h3 h4 ⊢
    unfold stepMade
    split
    · dsimp only
      refine ⟨?_, by omega, by omega, h4⟩
      rw [rem_append, h1]
      exact remF_nil _
    · obtain ⟨h5, h6⟩ := setOf_in (n := st.2.length) hs hm0 hm7
      dsimp only
      refine ⟨rem_one h6 h1, by rw [List.length_append]; simp; omega, h3, fun x hx => ?_⟩
      rcases List.mem_append.1 hx with hx | hx
      · exact h4 x hx
      · rw [List.mem_singleton] at hx; rw [hx]; exact h5

/-- what is seen of a signer who makes f in a region, at an age, of which the moves of q are missed -/
def madeD (s : SeenD) (f : FormD) (region age q : Int) : SeenD :=
  { rights := orI s.rights (2 ^ (f.right + 1).toNat), lefts := orI s.lefts (2 ^ (f.left + 1).toNat), faces := orI s.faces (2 ^ f.face.toNat), regions := orI s.regions (2 ^ region.toNat), lost := (madeTo s.moves q f.moves f.moves.length).1,
    cl := min s.cl f.column, ch := max s.ch f.column, rl := min s.rl f.row, rh := max s.rh f.row, al := min s.al age, ah := max s.ah age, moves := (madeTo s.moves q f.moves f.moves.length).2 }
theorem okForm_mem {f : FormD} (h : okForm f = true) : ∀ x ∈ f.moves, 0 ≤ x ∧ x ≤ 7 := fun x hx => by
  obtain ⟨j, hj⟩ := List.getElem?_of_mem hx
  exact okForm_move h j x hj
theorem okSeen_mem {s : SeenD} (h : okSeen s = true) : ∀ x ∈ s.moves, 1 ≤ x ∧ x ≤ 255 := fun x hx => by
  obtain ⟨j, hj⟩ := List.getElem?_of_mem hx
  exact (SeenIn.of_ok h).mv j x hj
theorem okSeen_iff {s : SeenD} : okSeen s = true ↔ (1 ≤ s.rights ∧ s.rights ≤ 8589934591) ∧ (1 ≤ s.lefts ∧ s.lefts ≤ 8589934591) ∧ s.cl ≤ s.ch ∧ s.rl ≤ s.rh ∧ s.al ≤ s.ah ∧ s.moves.length ≤ 6 ∧ (∀ x ∈ s.moves, 1 ≤ x ∧ x ≤ 255) ∧ (0 ≤ s.lost ∧ s.lost ≤ 6) ∧ (1 ≤ s.faces ∧ s.faces ≤ 255) ∧ (1 ≤ s.regions ∧ s.regions ≤ 255) := by
  simp only [okSeen, Bool.and_eq_true, inB_iff, decide_eq_true_eq, List.all_eq_true]
  constructor
  · rintro ⟨h1, h2, h3, h4, h5, ⟨h6, h7⟩, h8, h9, h10⟩
    exact ⟨h1, h2, h3, h4, h5, by omega, h7, h8, h9, h10⟩
  · rintro ⟨h1, h2, h3, h4, h5, h6, h7, h8, h9, h10⟩
    exact ⟨h1, h2, h3, h4, h5, ⟨by omega, h7⟩, h8, h9, h10⟩
theorem orI_set {a : Int} {k n : Nat} (ha : 1 ≤ a) (ha' : a < 2 ^ n) (hk : k < n) : 1 ≤ orI a (2 ^ k) ∧ orI a (2 ^ k) < 2 ^ n ∧ ∀ e : Int, e.toNat = k → hasD (orI a (2 ^ k)) e = true := by
  have hp : (0 : Int) < 2 ^ k := Int.pow_pos (by omega)
  have hlt : (2 : Int) ^ k < 2 ^ n := by
    have := Nat.pow_lt_pow_right (a := 2) (by omega) hk
    have e1 : ((2 ^ k : Nat) : Int) = (2 : Int) ^ k := by simp
    have e2 : ((2 ^ n : Nat) : Int) = (2 : Int) ^ n := by simp
    omega
  refine ⟨orI_pos hp (by omega), orI_lt (by omega) (by omega) ha' hlt, fun e he => ?_⟩
  rw [hasD_orI (by omega) (by omega), hasD_pow k e he]
  simp
theorem made_ok {s : SeenD} {f : FormD} {region age q : Int} (hs : okSeen s = true) (hf : okForm f = true) (hr : 0 ≤ region ∧ region ≤ 7) : okSeen (madeD s f region age q) = true ∧ agreesAsD (madeD s f region age q) f = true ∧ hasD (madeD s f region age q).regions region = true := by
  obtain ⟨r1, l1, c1, w1, a1, n1, m1, o1, f1, g1⟩ := okSeen_iff.1 hs
  obtain ⟨fr, fl, _, fc, fw, ff, fm⟩ := okForm_iff.1 hf
  have hfm := okForm_mem hf
  have hlen := okForm_len hf
  obtain ⟨k1, k2, k3, k4⟩ := made_facts (q := q) m1 hfm f.moves.length (Nat.le_refl _)
  rw [List.take_length] at k1
  obtain ⟨p1, p2, p3⟩ := orI_set (a := s.rights) (k := (f.right + 1).toNat) (n := 33) r1.1 (by simp; omega) (by omega)
  obtain ⟨q1, q2, q3⟩ := orI_set (a := s.lefts) (k := (f.left + 1).toNat) (n := 33) l1.1 (by simp; omega) (by omega)
  obtain ⟨u1, u2, u3⟩ := orI_set (a := s.faces) (k := f.face.toNat) (n := 8) f1.1 (by simp; omega) (by omega)
  obtain ⟨v1, v2, v3⟩ := orI_set (a := s.regions) (k := region.toNat) (n := 8) g1.1 (by simp; omega) (by omega)
  simp at p2 q2 u2 v2
  have hok : okSeen (madeD s f region age q) = true := by
    refine okSeen_iff.2 ⟨⟨p1, by unfold madeD; dsimp only; omega⟩, ⟨q1, by unfold madeD; dsimp only; omega⟩, ?_, ?_, ?_, ?_, k4, ⟨k3, ?_⟩, ⟨u1, by unfold madeD; dsimp only; omega⟩, ⟨v1, by unfold madeD; dsimp only; omega⟩⟩ <;> (unfold madeD; dsimp only; omega)
  refine ⟨hok, ?_, v3 region rfl⟩
  have hmv : agreesMovesD (madeD s f region age q) f.moves = true := by
    rw [← fits_moves (okSeen_lost hok).1, fits_rem _ _ _ (okSeen_lost hok).1]
    refine ⟨k1, ?_⟩
    unfold madeD
    dsimp only
    omega
  unfold agreesAsD
  rw [hmv]
  simp only [Bool.and_eq_true, Bool.and_true]
  refine ⟨⟨p3 _ rfl, q3 _ rfl⟩, ⟨?_, ?_⟩, u3 _ rfl⟩ <;> (rw [inB_iff]; unfold madeD; dsimp only; omega)
theorem found_few {s : SeenD} {l : List EntryR} {r : List Int} (h : FoundD s (l.map (·.d)) r) : r.length ≤ l.length := by
  have := nodup_length (a := r) (b := l.map fun y : EntryR => y.d.sign) (h.1.imp fun h => by omega) fun x hx => by
    obtain ⟨y, hy, _, e⟩ := (h.2 x).1 hx
    obtain ⟨z, hz, rfl⟩ := List.mem_map.1 hy
    exact List.mem_map.2 ⟨z, hz, e⟩
  simpa using this
/-- the sign that was made is found -/
theorem made_found {s : SeenD} {l : List EntryD} {r : List Int} {y : EntryD} {f : FormD} {region age q : Int} (hs : okSeen s = true) (hy : y ∈ l) (ho : okEntry y = true) (hf : f = y.form ∨ f = mirrorD y.form) (hr : 0 ≤ region ∧ region ≤ 7)
    (hre : hasD y.regions region = true) (hage : y.low ≤ age ∧ age ≤ y.high) (h : FoundD (madeD s f region age q) l r) : y.sign ∈ r := by
  have hfo : okForm f = true := by
    rcases hf with e | e <;> rw [e]
    · exact okEntry_okForm ho
    · exact okForm_mirror (okEntry_okForm ho)
  obtain ⟨h1, h2, h3⟩ := made_ok (age := age) (q := q) hs hfo hr
  obtain ⟨_, _, _, _, _, _, _, _, _, g1⟩ := okSeen_iff.1 h1
  refine (h.2 _).2 ⟨y, hy, ?_, rfl⟩
  rw [agrees_canon _ ho]
  have hyr : 1 ≤ y.regions ∧ y.regions ≤ 255 := by
    simp only [okEntry, Bool.and_eq_true, inB_iff] at ho
    exact ho.2.2.1
  unfold agreesD
  rw [and_meets (e := region) (by omega) (by omega) (by omega) (by omega) hre h3, Bool.true_and]
  have ha := okEntry_ages ho
  have hm : meetD y.low y.high (madeD s f region age q).al (madeD s f region age q).ah = true := by
    unfold meetD madeD
    simp only [Bool.and_eq_true, decide_eq_true_eq]
    omega
  rw [hm, Bool.true_and, Bool.or_eq_true]
  rcases hf with e | e
  · left; rw [← e]; exact h2
  · right; rw [← e]; exact h2

end Go.Proofs.YtfpmkolaiomabaaGreat
