/- Folk: pools in memory: people, rows of needs. -/
import Derived.Test.YtcgnibfcjadnjaaForms
import Derived.Test.YtcgnibfcjadnjaaWatch
namespace Go.Proofs.Ytcgnibfcjadnjaa
open Go.RowKit

structure FolkI where
  t : Int
  s : Int
  y : Int
structure PoolI where
  folk : List FolkI
  needs : List (List Int)
  ill : Int
  most : Int
/-- where a pool lies -/
structure PoolH where
  fa : Option Addr
  fc : Nat
  na : Option Addr
  nc : Nat
def natsL (l : List Nat) : List Int := l.map fun (x : Nat) => (x : Int)
theorem natsL_length (l : List Nat) : (natsL l).length = l.length := List.length_map _
theorem natsL_at {l : List Nat} {k x : Nat} (h : l[k]? = some x) : (natsL l)[k]? = some (x : Int) := by simp [natsL, h]
def FolkN.i (x : FolkN) : FolkI := ⟨x.t, x.s, x.y⟩
def Pool.i (p : Pool) : PoolI := ⟨p.folk.map FolkN.i, p.needs.map natsL, p.ill, p.most⟩
abbrev cellsF (x : FolkI) : Array Value := #[.int .i64 x.t, .int .i64 x.s, .int .i64 x.y]
abbrev folkV (x : FolkI) : Value := .agg (cellsF x)
abbrev cellsP (h : PoolH) (d : PoolI) : Array Value := #[.slice h.fa d.folk.length h.fc, .slice h.na d.needs.length h.nc, .int .i64 d.ill, .int .i64 d.most]
abbrev poolV (h : PoolH) (d : PoolI) : Value := .agg (cellsP h d)
abbrev cellsN (h : PoolH) (p : Pool) : Array Value := #[.slice h.fa p.folk.length h.fc, .slice h.na p.needs.length h.nc, .int .i64 (p.ill : Nat), .int .i64 (p.most : Nat)]
abbrev poolN (h : PoolH) (p : Pool) : Value := .agg (cellsN h p)
theorem cells_i (h : PoolH) (p : Pool) : cellsP h p.i = cellsN h p := by simp [Pool.i, cellsP, cellsN]
theorem pool_i (h : PoolH) (p : Pool) : poolV h p.i = poolN h p := by show Value.agg _ = _; rw [cells_i]

def Folks (w : World) (B : Nat) (A : Option Addr) (l : List FolkI) : Prop :=
  l = [] ∨ ∃ b off, A = some ⟨b, off, none⟩ ∧ b < B ∧ ∀ i x, l[i]? = some x → ∀ j, j < 3 → w.cell? ⟨b, off + i * 3 + j, none⟩ = (cellsF x)[j]?
theorem Folks.below {w w' : World} {B : Nat} {A : Option Addr} {l : List FolkI} (h : Folks w B A l) (hb : Below B w w') : Folks w' B A l := by
  rcases h with rfl | ⟨b, off, rfl, hl, hc⟩
  · exact .inl rfl
  · exact .inr ⟨b, off, rfl, hl, fun i x hi j hj => (hb.cell (p := ⟨b, off + i * 3 + j, none⟩) hl).trans (hc i x hi j hj)⟩
theorem Folks.more {w : World} {B B' : Nat} {A : Option Addr} {l : List FolkI} (h : Folks w B A l) (hb : B ≤ B') : Folks w B' A l := by
  rcases h with rfl | ⟨b, off, rfl, hl, hc⟩
  · exact .inl rfl
  · exact .inr ⟨b, off, rfl, by omega, hc⟩
theorem Folks.at_ {w : World} {B : Nat} {A : Option Addr} {l : List FolkI} (h : Folks w B A l) {k : Nat} (hk : k < l.length) :
    ∃ b off x, A = some ⟨b, off, none⟩ ∧ b < B ∧ (∀ j, j < 3 → w.cell? ⟨b, off + k * 3 + j, none⟩ = (cellsF x)[j]?) ∧ Hid (l[k]? = some x) := by
  rcases h with rfl | ⟨b, off, rfl, hb, hc⟩
  · simp at hk
  · exact ⟨b, off, l[k], rfl, hb, hc k _ (List.getElem?_eq_getElem hk), List.getElem?_eq_getElem hk⟩
/-- rows of integers -/
def Rows (w : World) (B : Nat) (A : Option Addr) (l : List (List Int)) : Prop :=
  l = [] ∨ ∃ b off, A = some ⟨b, off, none⟩ ∧ b < B ∧ ∀ i xs, l[i]? = some xs → ∃ a c, w.cell? ⟨b, off + i, none⟩ = some (.slice a xs.length c) ∧ Ints w B a xs
theorem Rows.below {w w' : World} {B : Nat} {A : Option Addr} {l : List (List Int)} (h : Rows w B A l) (hb : Below B w w') : Rows w' B A l := by
  rcases h with rfl | ⟨b, off, rfl, hl, hc⟩
  · exact .inl rfl
  · refine .inr ⟨b, off, rfl, hl, fun i xs hi => ?_⟩
    obtain ⟨a, c, h1, h2⟩ := hc i xs hi
    exact ⟨a, c, (hb.cell (p := ⟨b, off + i, none⟩) hl).trans h1, h2.below hb⟩
theorem Rows.more {w : World} {B B' : Nat} {A : Option Addr} {l : List (List Int)} (h : Rows w B A l) (hb : B ≤ B') : Rows w B' A l := by
  rcases h with rfl | ⟨b, off, rfl, hl, hc⟩
  · exact .inl rfl
  · refine .inr ⟨b, off, rfl, by omega, fun i xs hi => ?_⟩
    obtain ⟨a, c, h1, h2⟩ := hc i xs hi
    exact ⟨a, c, h1, h2.more hb⟩
theorem Rows.at_ {w : World} {B : Nat} {A : Option Addr} {l : List (List Int)} (h : Rows w B A l) {k : Nat} (hk : k < l.length) :
    ∃ b off xs a c, A = some ⟨b, off, none⟩ ∧ b < B ∧ w.cell? ⟨b, off + k, none⟩ = some (.slice a xs.length c) ∧ Ints w B a xs ∧ Hid (l[k]? = some xs) := by
  rcases h with rfl | ⟨b, off, rfl, hb, hc⟩
  · simp at hk
  · obtain ⟨a, c, h1, h2⟩ := hc k _ (List.getElem?_eq_getElem hk)
    exact ⟨b, off, l[k], a, c, rfl, hb, h1, h2, List.getElem?_eq_getElem hk⟩
def PoolAt (w : World) (B : Nat) (h : PoolH) (d : PoolI) : Prop := Folks w B h.fa d.folk ∧ Rows w B h.na d.needs
theorem PoolAt.below {w w' : World} {B : Nat} {h : PoolH} {d : PoolI} (k : PoolAt w B h d) (hb : Below B w w') : PoolAt w' B h d := ⟨k.1.below hb, k.2.below hb⟩
theorem PoolAt.more {w : World} {B B' : Nat} {h : PoolH} {d : PoolI} (k : PoolAt w B h d) (hb : B ≤ B') : PoolAt w B' h d := ⟨k.1.more hb, k.2.more hb⟩
theorem PoolAt.grow {w w' : World} {h : PoolH} {d : PoolI} (k : PoolAt w w.heap.size h d) (hb : Grow w w') : PoolAt w' w'.heap.size h d := (k.below hb).more hb.size
/-- a person of a valid pool -/
theorem folk_at {w : World} {B : Nat} {A : Option Addr} {l : List FolkN} (h : Folks w B A (l.map FolkN.i)) {k : Nat} (hk : k < l.length) :
    ∃ b off x, A = some ⟨b, off, none⟩ ∧ b < B ∧ w.cell? ⟨b, off + k * 3, none⟩ = some (.int .i64 (x.t : Nat)) ∧ w.cell? ⟨b, off + k * 3 + 1, none⟩ = some (.int .i64 (x.s : Nat)) ∧ w.cell? ⟨b, off + k * 3 + 2, none⟩ = some (.int .i64 (x.y : Nat)) ∧ Hid (l[k]? = some x) := by
  obtain ⟨b, off, x, rfl, hb, hc, hx⟩ := h.at_ (k := k) (by simpa using hk)
  have hx : l[k]?.map FolkN.i = some x := by simpa [Hid] using hx
  rw [List.getElem?_eq_getElem hk] at hx
  obtain rfl : FolkN.i l[k] = x := by simpa using hx
  exact ⟨b, off, l[k], rfl, hb, hc 0 (by omega), hc 1 (by omega), hc 2 (by omega), List.getElem?_eq_getElem hk⟩
/-- a row of a valid pool -/
theorem row_at {w : World} {B : Nat} {A : Option Addr} {p : Pool} (h : Rows w B A (p.needs.map natsL)) {k : Nat} (hk : k < p.needs.length) :
    ∃ b off a c, A = some ⟨b, off, none⟩ ∧ b < B ∧ w.cell? ⟨b, off + k, none⟩ = some (.slice a (p.row k).length c) ∧ Ints w B a (natsL (p.row k)) := by
  obtain ⟨b, off, xs, a, c, rfl, hb, hc, hi, hx⟩ := h.at_ (k := k) (by simpa using hk)
  have hr : p.row k = p.needs[k] := by unfold Pool.row; rw [List.getD_eq_getElem?_getD, List.getElem?_eq_getElem hk]; rfl
  have hx : p.needs[k]?.map natsL = some xs := by simpa [Hid] using hx
  rw [List.getElem?_eq_getElem hk] at hx
  obtain rfl : natsL p.needs[k] = xs := by simpa using hx
  exact ⟨b, off, a, c, rfl, hb, by rw [hc, hr, natsL_length], by rw [hr]; exact hi⟩

/-- what is valid -/
def okFolk (tn n : Int) (x : FolkI) : Bool := inB x.t 0 (2 ^ tn.toNat - 1) && inB x.s 0 (2 ^ n.toNat - 1) && inB x.y 0 1000
def tnI (d : PoolI) : Nat := (d.needs.getD 0 []).length
def okRow (tn : Nat) (l : List Int) : Bool := decide (l.length = tn) && (inB l.length 1 5 && l.all fun x => inB x 0 8)
def okPool (d : PoolI) : Bool := (inB d.needs.length 1 6 && d.needs.all (okRow (tnI d))) && ((inB d.folk.length 1 8 && d.folk.all (okFolk (tnI d) d.needs.length)) && inB d.ill 0 3 && inB d.most 0 6)
/-- a pool that statements look at -/
def smallI (d : PoolI) : Prop := d.folk.length ≤ 5 ∧ d.needs.length ≤ 3 ∧ tnI d ≤ 3
theorem nat_of {x : Int} (h : 0 ≤ x) : ((x.toNat : Nat) : Int) = x := Int.toNat_of_nonneg h
theorem good_of {d : PoolI} (h : okPool d = true) (hs : smallI d) : ∃ p : Pool, d = p.i ∧ Good p := by
  unfold okPool at h
  simp only [Bool.and_eq_true, List.all_eq_true] at h
  obtain ⟨⟨h1, h2⟩, ⟨⟨h3, h4⟩, h5⟩, h6⟩ := h
  obtain ⟨s1, s2, s3⟩ := hs
  rw [inB_iff] at h1 h3 h5 h6
  have hrow : ∀ r, r ∈ d.needs → r.length = tnI d ∧ (1 ≤ r.length) ∧ ∀ x, x ∈ r → 0 ≤ x ∧ x ≤ 8 := fun r hr => by
    have := h2 r hr
    unfold okRow at this
    simp only [Bool.and_eq_true, List.all_eq_true, decide_eq_true_eq, inB_iff] at this
    exact ⟨this.1, by omega, fun x hx => this.2.2 x hx⟩
  have hfolk : ∀ x, x ∈ d.folk → (0 ≤ x.t ∧ x.t ≤ 2 ^ tnI d - 1) ∧ (0 ≤ x.s ∧ x.s ≤ 2 ^ d.needs.length - 1) ∧ 0 ≤ x.y ∧ x.y ≤ 1000 := fun x hx => by
    have := h4 x hx
    unfold okFolk at this
    simp only [Bool.and_eq_true, inB_iff, Int.toNat_natCast] at this
    exact ⟨this.1.1, this.1.2, this.2⟩
  refine ⟨⟨d.folk.map fun x => ⟨x.t.toNat, x.s.toNat, x.y.toNat⟩, d.needs.map fun r => r.map Int.toNat, d.ill.toNat, d.most.toNat⟩, ?_, ?_⟩
  · obtain ⟨f, n, i, m⟩ := d
    unfold Pool.i
    dsimp only at h5 h6 hrow hfolk ⊢
    rw [nat_of h5.1, nat_of h6.1, List.map_map, List.map_map]
    congr 1
    · conv => lhs; rw [← List.map_id f]
      refine List.map_congr_left fun x hx => ?_
      obtain ⟨a, b, c, e⟩ := hfolk x hx
      show x = FolkI.mk _ _ _
      dsimp only
      rw [nat_of a.1, nat_of b.1, nat_of c]
    · conv => lhs; rw [← List.map_id n]
      refine List.map_congr_left fun r hr => ?_
      obtain ⟨_, _, c⟩ := hrow r hr
      show r = natsL (r.map Int.toNat)
      unfold natsL
      rw [List.map_map]
      conv => lhs; rw [← List.map_id r]
      refine List.map_congr_left fun x hx => ?_
      exact (nat_of (c x hx).1).symm
  · have htn : ∀ a b c e, Pool.tn ⟨a, d.needs.map fun r => r.map Int.toNat, b, c⟩ = tnI d ∧ e = e := fun a b c (e : Nat) => ⟨by
      unfold Pool.tn Pool.row tnI
      cases hn : d.needs with
      | nil => rfl
      | cons r l => simp, rfl⟩
    have htn := fun a b c => (htn a b c 0).1
    have h1t : 1 ≤ tnI d := by
      unfold tnI
      cases hn : d.needs with
      | nil => rw [hn] at h1; simp at h1
      | cons r l => exact (hrow r (by rw [hn]; simp)).2.1
    constructor
    · have := h3.1; show 1 ≤ (List.map _ _).length; rw [List.length_map]; omega
    · simpa using s1
    · have := h1.1; show 1 ≤ (List.map _ _).length; rw [List.length_map]; omega
    · simpa using s2
    · rw [htn]; exact h1t
    · rw [htn]; exact s3
    · intro r hr
      rw [htn]
      obtain ⟨q, hq, rfl⟩ := List.mem_map.1 hr
      obtain ⟨a, _, c⟩ := hrow q hq
      refine ⟨by simpa using a, fun x hx => ?_⟩
      obtain ⟨y, hy, rfl⟩ := List.mem_map.1 hx
      have := c y hy
      omega
    · intro x hx
      rw [htn]
      obtain ⟨q, hq, rfl⟩ := List.mem_map.1 hx
      obtain ⟨a, b, c, e⟩ := hfolk q hq
      dsimp only
      rw [List.length_map]
      have e1 : (2 : Int) ^ tnI d = ((2 ^ tnI d : Nat) : Int) := (Int.natCast_pow 2 _).symm
      have e2 : (2 : Int) ^ d.needs.length = ((2 ^ d.needs.length : Nat) : Int) := (Int.natCast_pow 2 _).symm
      rw [e1] at a
      rw [e2] at b
      have p1 := Nat.pow_pos (n := tnI d) (show 0 < 2 by omega)
      have p2 := Nat.pow_pos (n := d.needs.length) (show 0 < 2 by omega)
      refine ⟨by omega, by omega, by omega⟩
    · dsimp only; omega
    · dsimp only; omega

end Go.Proofs.Ytcgnibfcjadnjaa
