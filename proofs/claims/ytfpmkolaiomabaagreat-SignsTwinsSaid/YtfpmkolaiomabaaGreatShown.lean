/- Shown: mathematics of SignsTwins: just what an entry shows leads to its own sign and to those of its twins, and no others. -/
import Derived.Test.YtfpmkolaiomabaaGreatMade
import Derived.Test.YtfpmkolaiomabaaGreatTwinsWalk
namespace Go.Proofs.YtfpmkolaiomabaaGreat

/-- just what is seen of f, in a region and at an age -/
def showD (f : FormD) (region age : Int) : SeenD :=
  { rights := 2 ^ (f.right + 1).toNat, lefts := 2 ^ (f.left + 1).toNat, faces := 2 ^ f.face.toNat, regions := 2 ^ region.toNat, lost := 0,
    cl := f.column, ch := f.column, rl := f.row, rh := f.row, al := age, ah := age, moves := f.moves.map fun m => 2 ^ m.toNat }
theorem pow_nat (k : Nat) : ((2 : Int) ^ k) = ((2 ^ k : Nat) : Int) := by simp
theorem pow_lt {k n : Nat} (h : k < n) : (1 : Int) ≤ 2 ^ k ∧ (2 : Int) ^ k < 2 ^ n := by
  have h1 := Nat.pow_lt_pow_right (a := 2) (by omega) h
  have h2 : 0 < 2 ^ k := Nat.pow_pos (by omega)
  rw [pow_nat k, pow_nat n]
  generalize (2 ^ k : Nat) = K at h1 h2 ⊢
  generalize (2 ^ n : Nat) = N at h1 ⊢
  omega
theorem hasD_pow_iff (k : Nat) (e : Int) : hasD (2 ^ k) e = true ↔ e.toNat = k := by
  rw [pow_nat, hasD_bit (Int.natCast_nonneg _), Int.toNat_natCast, Nat.testBit_two_pow, decide_eq_true_eq]
  exact eq_comm
theorem fits_single : ∀ (ms fs : List Int), (∀ m ∈ ms, 0 ≤ m) → (∀ m ∈ fs, 0 ≤ m) → fitsD ms (fs.map fun m => 2 ^ m.toNat) 0 = true → ms = fs
  | [], [], _, _, _ => rfl
  | [], f :: fs, _, _, h => by simp [fitsD] at h
  | m :: ms, [], _, _, h => by simp [fitsD] at h
  | m :: ms, f :: fs, hm, hf, h => by
    simp only [List.map_cons, fitsD, Bool.or_eq_true, Bool.and_eq_true, decide_eq_true_eq] at h
    rcases h with ⟨h1, h2⟩ | ⟨h1, _⟩
    · rw [hasD_pow_iff] at h1
      have a := hm m List.mem_cons_self
      have b := hf f List.mem_cons_self
      have := fits_single ms fs (fun x hx => hm x (List.mem_cons_of_mem _ hx)) (fun x hx => hf x (List.mem_cons_of_mem _ hx)) h2
      rw [this, show m = f by omega]
    · omega
theorem fits_self : ∀ (fs : List Int), fitsD fs (fs.map fun m => 2 ^ m.toNat) 0 = true
  | [] => rfl
  | f :: fs => by
    simp only [List.map_cons, fitsD, Bool.or_eq_true, Bool.and_eq_true]
    exact .inl ⟨(hasD_pow_iff _ _).2 rfl, fits_self fs⟩
theorem show_ok {f : FormD} {region age : Int} (hf : okForm f = true) (hr : 0 ≤ region ∧ region ≤ 7) : okSeen (showD f region age) = true := by
  obtain ⟨fr, fl, _, fc, fw, ff, fm⟩ := okForm_iff.1 hf
  have hlen := okForm_len hf
  have hm := okForm_mem hf
  have a1 := pow_lt (k := (f.right + 1).toNat) (n := 33) (by omega)
  have a2 := pow_lt (k := (f.left + 1).toNat) (n := 33) (by omega)
  have a3 := pow_lt (k := f.face.toNat) (n := 8) (by omega)
  have a4 := pow_lt (k := region.toNat) (n := 8) (by omega)
  rw [show (2 : Int) ^ 33 = 8589934592 from rfl] at a1 a2
  rw [show (2 : Int) ^ 8 = 256 from rfl] at a3 a4
  refine okSeen_iff.2 ⟨⟨a1.1, ?_⟩, ⟨a2.1, ?_⟩, Int.le_refl _, Int.le_refl _, Int.le_refl _, ?_, ?_, ⟨Int.le_refl _, show (0 : Int) ≤ 6 by decide⟩, ⟨a3.1, ?_⟩, ⟨a4.1, ?_⟩⟩
  · show (2 : Int) ^ (f.right + 1).toNat ≤ _; omega
  · show (2 : Int) ^ (f.left + 1).toNat ≤ _; omega
  · show (f.moves.map _).length ≤ 6; rw [List.length_map]; exact hlen
  · intro x hx
    obtain ⟨m, h, rfl⟩ := List.mem_map.1 hx
    obtain ⟨h0, h7⟩ := hm m h
    have := pow_255 h0 h7
    omega
  · show (2 : Int) ^ f.face.toNat ≤ _; omega
  · show (2 : Int) ^ region.toNat ≤ _; omega
theorem show_self {f : FormD} {region age : Int} : agreesAsD (showD f region age) f = true := by
  unfold agreesAsD
  rw [← fits_moves (s := showD f region age) (Int.le_refl _)]
  simp only [Bool.and_eq_true]
  refine ⟨⟨(hasD_pow_iff _ _).2 rfl, (hasD_pow_iff _ _).2 rfl⟩, ⟨inB_iff.2 ⟨Int.le_refl _, Int.le_refl _⟩, inB_iff.2 ⟨Int.le_refl _, Int.le_refl _⟩⟩, (hasD_pow_iff _ _).2 rfl, fits_self _⟩
theorem show_only {f g : FormD} {region age : Int} (hf : okForm f = true) (hg : okForm g = true) (h : agreesAsD (showD f region age) g = true) : g = f := by
  obtain ⟨fr, fl, _, fc, fw, ff, fm⟩ := okForm_iff.1 hf
  obtain ⟨gr, gl, _, gc, gw, gf, gm⟩ := okForm_iff.1 hg
  have hm := okForm_mem hf
  have hn := okForm_mem hg
  unfold agreesAsD at h
  rw [← fits_moves (s := showD f region age) (Int.le_refl _)] at h
  simp only [Bool.and_eq_true, inB_iff] at h
  obtain ⟨⟨h1, h2⟩, ⟨h3, h4⟩, h5, h6⟩ := h
  have h1 := (hasD_pow_iff _ _).1 h1
  have h2 := (hasD_pow_iff _ _).1 h2
  have h5 := (hasD_pow_iff _ _).1 h5
  have h7 := fits_single _ _ (fun x hx => (hn x hx).1) (fun x hx => (hm x hx).1) h6
  clear h6
  obtain ⟨r, l, c, w, a, ms⟩ := f
  obtain ⟨r', l', c', w', a', ms'⟩ := g
  unfold showD at h3 h4
  dsimp only at *
  obtain rfl : r' = r := by omega
  obtain rfl : l' = l := by omega
  obtain rfl : c' = c := by omega
  obtain rfl : w' = w := by omega
  obtain rfl : a' = a := by omega
  rw [h7]
theorem has_of_and {a : Int} {k : Nat} (ha : 0 ≤ a) (ha' : a < 9223372036854775808) (hk : k < 60) (h : (bits .and .i64 a (2 ^ k) != 0) = true) (e : Int) (he : e.toNat = k) : hasD a e = true := by
  subst he
  obtain ⟨n, rfl⟩ := Int.eq_ofNat_of_zero_le ha
  have hp := pow_lt (k := e.toNat) (n := 60) hk
  rw [pow_nat, pow_nat, show (2 : Nat) ^ 60 = 1152921504606846976 from rfl] at hp
  rw [pow_nat, and_i64 n _ (by omega) (by omega), bne_iff_ne] at h
  rw [hasD_bit ha, Int.toNat_natCast]
  cases ht : n.testBit e.toNat with
  | true => rfl
  | false =>
    refine absurd ?_ h
    have h0 : n &&& 2 ^ e.toNat = 0 := by
      refine Nat.eq_of_testBit_eq fun i => ?_
      rw [Nat.testBit_and, Nat.testBit_two_pow, Nat.zero_testBit]
      by_cases hi : e.toNat = i
      · subst hi; rw [ht]; rfl
      · simp [hi]
    rw [h0]
    rfl
theorem entry_regions {x : EntryD} (h : okEntry x = true) : 1 ≤ x.regions ∧ x.regions ≤ 255 := by
  simp only [okEntry, Bool.and_eq_true, inB_iff] at h
  exact h.2.2.1
theorem shown_of {y z : EntryD} {region age : Int} (hy : okEntry y = true) (hz : okEntry z = true) (hr : 0 ≤ region ∧ region ≤ 7) (hre : hasD y.regions region = true) (hage : y.low ≤ age ∧ age ≤ y.high)
    (h : agreesD (showD y.form region age) z = true) : shownD (canonE z) (canonE y) = true ∧ shownD (canonE y) (canonE z) = true := by
  have ry := entry_regions hy
  have rz := entry_regions hz
  unfold agreesD at h
  simp only [Bool.and_eq_true, Bool.or_eq_true] at h
  obtain ⟨h1, h2, h3⟩ := h
  have hrz : hasD z.regions region = true := has_of_and (k := region.toNat) (by omega) (by omega) (by omega) h1 region rfl
  unfold meetD showD at h2
  simp only [Bool.and_eq_true, decide_eq_true_eq] at h2
  have hc : canonD z.form = canonD y.form := by
    rcases h3 with h3 | h3
    · rw [show_only (okEntry_okForm hy) (okEntry_okForm hz) h3]
    · rw [← canon_mirror (okEntry_okForm hz), show_only (okEntry_okForm hy) (okForm_mirror (okEntry_okForm hz)) h3]
  have h0 : cmpF (canonD y.form) (canonD y.form) = 0 := by
    have := cmp_cmpF.neg (canonD y.form) (canonD y.form)
    omega
  unfold shownD canonE
  dsimp only
  rw [hc, h0, and_meets (e := region) (by omega) (by omega) (by omega) (by omega) hrz hre, and_meets (e := region) (by omega) (by omega) (by omega) (by omega) hre hrz]
  unfold meetD
  simp only [Bool.and_eq_true, decide_eq_true_eq, beq_iff_eq, true_and, Bool.true_and]
  omega
theorem show_found {l : List EntryD} {r : List Int} {y : EntryD} {region age : Int} (hy : y ∈ l) (ho : okEntry y = true) (hr : 0 ≤ region ∧ region ≤ 7) (hre : hasD y.regions region = true) (hage : y.low ≤ age ∧ age ≤ y.high) (h : FoundD (showD y.form region age) l r) : y.sign ∈ r := by
  refine (h.2 _).2 ⟨y, hy, ?_, rfl⟩
  rw [agrees_canon _ ho]
  have hyr := entry_regions ho
  have hp := pow_lt (k := region.toNat) (n := 8) (by omega)
  rw [show (2 : Int) ^ 8 = 256 from rfl] at hp
  unfold agreesD
  rw [show_self, and_meets (e := region) (a := y.regions) (b := (showD y.form region age).regions) (by omega) (by show (0 : Int) ≤ 2 ^ region.toNat; omega) (by omega) (by show (2 : Int) ^ region.toNat < _; omega) hre ((hasD_pow_iff _ _).2 rfl)]
  unfold meetD showD
  simp only [Bool.and_eq_true, decide_eq_true_eq, Bool.true_or, and_true, Bool.true_and]
  omega
theorem twins_first {l : List EntryD} {r : List Int} {ps : List (Int × Int)} {y : EntryD} {region age n : Int} (hl : ∀ x ∈ l, okEntry x = true) (hy : y ∈ l) (hr : 0 ≤ region ∧ region ≤ 7) (hre : hasD y.regions region = true) (hage : y.low ≤ age ∧ age ≤ y.high)
    (hf : FoundD (showD y.form region age) l r) (ht : TwinsD l ps) (hn : n ∈ r) : n = y.sign ∨ (min n y.sign, max n y.sign) ∈ ps := by
  obtain ⟨z, hz, ha, rfl⟩ := (hf.2 n).1 hn
  rw [agrees_canon _ (hl z hz)] at ha
  obtain ⟨s1, s2⟩ := shown_of (hl y hy) (hl z hz) hr hre hage ha
  by_cases h0 : z.sign = y.sign
  · exact .inl h0
  right
  rw [ht.2]
  unfold twinOf
  by_cases h1 : z.sign < y.sign
  · refine ⟨z, hz, y, hy, ?_, ?_⟩
    · rw [s1, Bool.and_true]; exact decide_eq_true h1
    · rw [show min z.sign y.sign = z.sign by omega, show max z.sign y.sign = y.sign by omega]
  · refine ⟨y, hy, z, hz, ?_, ?_⟩
    · rw [s2, Bool.and_true]; exact decide_eq_true (show y.sign < z.sign by omega)
    · rw [show min z.sign y.sign = y.sign by omega, show max z.sign y.sign = z.sign by omega]
/-- are two entries the twins of a pair? -/
def pairD (p : Int × Int) (x y : EntryD) : Bool :=
  (cmpF (canonD x.form) (canonD y.form) == 0) && (decide (p.1 = x.sign ∧ p.2 = y.sign) && ((bits .and .i64 x.regions y.regions != 0) && decide (max x.low y.low ≤ min x.high y.high)))
theorem twins_second {l : List EntryD} {ps : List (Int × Int)} {p : Int × Int} (hl : ∀ x ∈ l, okEntry x = true) (ht : TwinsD l ps) (hp : p ∈ ps) : p.1 < p.2 ∧ ∃ x ∈ l, ∃ y ∈ l, pairD p x y = true := by
  obtain ⟨x, hx, y, hy, hxy, rfl⟩ := (ht.2 p).1 hp
  unfold twinOf shownD canonE at hxy
  simp only [Bool.and_eq_true, decide_eq_true_eq] at hxy
  obtain ⟨h1, h2, h3, h4⟩ := hxy
  refine ⟨h1, x, hx, y, hy, ?_⟩
  have ax := okEntry_ages (hl x hx)
  have ay := okEntry_ages (hl y hy)
  unfold meetD at h4
  unfold pairD
  simp only [Bool.and_eq_true, decide_eq_true_eq] at h4 ⊢
  exact ⟨h2, ⟨trivial, trivial⟩, h3, by omega⟩
/-- is some pair among the first m the twins of the signs n and o? -/
def twinTo (ps : List (Int × Int)) (n o : Int) (m : Nat) : Bool := (decide (n = o)) || (ps.take m).any fun p => decide (p.1 = min n o ∧ p.2 = max n o)
theorem take_snoc' {α : Type} {l : List α} {m : Nat} {x : α} (h : l[m]? = some x) : l.take (m + 1) = l.take m ++ [x] := by
  rw [List.take_add_one, h]; rfl
theorem twinTo_succ {ps : List (Int × Int)} {n o : Int} {m : Nat} {p : Int × Int} (h : ps[m]? = some p) : twinTo ps n o (m + 1) = (twinTo ps n o m || decide (p.1 = min n o ∧ p.2 = max n o)) := by
  unfold twinTo
  rw [take_snoc' h, List.any_append]
  simp [Bool.or_assoc]
theorem twinTo_all {ps : List (Int × Int)} {n o : Int} (h : n = o ∨ (min n o, max n o) ∈ ps) : twinTo ps n o ps.length = true := by
  unfold twinTo
  rw [List.take_length, Bool.or_eq_true, decide_eq_true_eq, List.any_eq_true]
  rcases h with h | h
  · exact .inl h
  · exact .inr ⟨_, h, by simp⟩
/-- does some y among the first m entries make the pair p with x? -/
def rowTo (p : Int × Int) (x : EntryD) (l : List EntryR) (m : Nat) : Bool := (l.take m).any fun y => pairD p x y.d
theorem rowTo_succ {p : Int × Int} {x : EntryD} {l : List EntryR} {m : Nat} {y : EntryR} (h : l[m]? = some y) : rowTo p x l (m + 1) = (rowTo p x l m || pairD p x y.d) := by
  unfold rowTo
  rw [take_snoc' h, List.any_append]
  simp
/-- do some two entries, the first of them among the first m, make the pair p? -/
def allTo (p : Int × Int) (l : List EntryR) (m : Nat) : Bool := (l.take m).any fun x => rowTo p x.d l l.length
theorem allTo_succ {p : Int × Int} {l : List EntryR} {m : Nat} {x : EntryR} (h : l[m]? = some x) : allTo p l (m + 1) = (allTo p l m || rowTo p x.d l l.length) := by
  unfold allTo
  rw [take_snoc' h, List.any_append]
  simp
theorem allTo_all {p : Int × Int} {l : List EntryR} (h : ∃ x ∈ l.map (·.d), ∃ y ∈ l.map (·.d), pairD p x y = true) : allTo p l l.length = true := by
  obtain ⟨x, hx, y, hy, h⟩ := h
  obtain ⟨x', hx', rfl⟩ := List.mem_map.1 hx
  obtain ⟨y', hy', rfl⟩ := List.mem_map.1 hy
  unfold allTo rowTo
  rw [List.take_length, List.any_eq_true]
  exact ⟨x', hx', by rw [List.any_eq_true]; exact ⟨y', hy', h⟩⟩

end Go.Proofs.YtfpmkolaiomabaaGreat
