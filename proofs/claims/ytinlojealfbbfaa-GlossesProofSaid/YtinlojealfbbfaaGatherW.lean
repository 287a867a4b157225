/- GatherW: rows of groups in memory, and lists of glosses as arguments. -/
import Derived.Test.YtinlojealfbbfaaGatherM
namespace Go.Proofs.Ytinlojealfbbfaa
open Go.RowKit
open Go.ChangeMaps (setBlock)

theorem nodup_len : ∀ {a b : List GlossD}, a.Nodup → (∀ x ∈ a, x ∈ b) → a.length ≤ b.length
  | [], _, _, _ => Nat.zero_le _
  | x :: a, b, h, hb => by
    obtain ⟨h1, h2⟩ := List.nodup_cons.1 h
    have hx := hb x (List.mem_cons_self ..)
    have ih := nodup_len (b := b.erase x) h2 (fun y hy => (List.mem_erase_of_ne (fun e => h1 (by rw [← e]; exact hy))).2 (hb y (List.mem_cons_of_mem _ hy)))
    rw [List.length_erase_of_mem hx] at ih
    have := List.length_pos_of_mem hx
    simp only [List.length_cons]
    omega
/-- a list of glosses among several -/
structure LstR where
  A : Option Addr
  c : Nat
  l : List GlossD
abbrev lstV (r : LstR) : Value := .slice r.A r.l.length r.c
def ListsAt (w : World) (B : Nat) (A : Option Addr) (Ls : List LstR) : Prop := (Ls = [] ∨ ∃ b off, A = some ⟨b, off, none⟩ ∧ b < B ∧ ∀ (i : Nat) (r : LstR), Ls[i]? = some r → w.cell? ⟨b, off + i, none⟩ = some (lstV r)) ∧ ∀ r ∈ Ls, GlossAt w B r.A r.l
theorem ListsAt.below {w w' : World} {B : Nat} {A : Option Addr} {Ls : List LstR} (h : ListsAt w B A Ls) (hb : Below B w w') : ListsAt w' B A Ls := by
  refine ⟨?_, fun r hr => (h.2 r hr).below hb⟩
  rcases h.1 with e | ⟨b, off, e, hl, hc⟩
  · exact .inl e
  · exact .inr ⟨b, off, e, hl, fun i r hi => (hb.cell (p := ⟨b, off + i, none⟩) hl).trans (hc i r hi)⟩
theorem ListsAt.more {w : World} {B B' : Nat} {A : Option Addr} {Ls : List LstR} (h : ListsAt w B A Ls) (hb : B ≤ B') : ListsAt w B' A Ls := by
  refine ⟨?_, fun r hr => (h.2 r hr).more hb⟩
  rcases h.1 with e | ⟨b, off, e, hl, hc⟩
  · exact .inl e
  · exact .inr ⟨b, off, e, by omega, hc⟩
theorem ListsAt.at_ {w : World} {B : Nat} {A : Option Addr} {Ls : List LstR} (h : ListsAt w B A Ls) {k : Nat} (hk : k < Ls.length) :
    ∃ b off r, A = some ⟨b, off, none⟩ ∧ b < B ∧ w.cell? ⟨b, off + k, none⟩ = some (lstV r) ∧ Hid (Ls[k]? = some r) ∧ GlossAt w B r.A r.l := by
  rcases h.1 with rfl | ⟨b, off, rfl, hl, hc⟩
  · simp at hk
  · have hx := List.getElem?_eq_getElem hk
    exact ⟨b, off, Ls[k], rfl, hl, hc k _ hx, hx, h.2 _ (List.getElem_mem hk)⟩

/-- the rows of the groups are the call's own, each in a block of its own -/
def OwnG (w : World) (lo : Nat) (L : List GrpR) : Prop := (∀ y ∈ L, w.ownsRow lo 55 6 (grpV y) y.l.length (y.l.flatMap cellsGL)) ∧ L.Pairwise fun y z => ∀ q, (grpV y).ownBlock = some q → (grpV z).ownBlock ≠ some q
theorem OwnG.nil (w : World) (lo : Nat) : OwnG w lo [] := ⟨by simp, List.Pairwise.nil⟩
theorem OwnG.grow {w w' : World} {lo : Nat} {L : List GrpR} (h : OwnG w lo L) (g : Grow w w') : OwnG w' lo L := ⟨fun y hy => own_grow (h.1 y hy) g, h.2⟩
theorem OwnG.empty {w : World} {lo : Nat} {L : List GrpR} (h : OwnG w lo L) (a b : Int) : OwnG w lo (L ++ [⟨a, b, none, 0, []⟩]) := by
  refine ⟨fun y hy => ?_, List.pairwise_append.2 ⟨h.2, by simp, fun y hy z hz q hq => ?_⟩⟩
  · rcases List.mem_append.1 hy with hy | hy
    · exact h.1 y hy
    · obtain rfl := List.mem_singleton.1 hy
      exact own_nilG w lo
  · obtain rfl := List.mem_singleton.1 hz
    simp [Value.ownBlock]
theorem own_notMap {w : World} {base e size n : Nat} {v : Value} {xs : List Value} (h : w.ownsRow base e size v n xs) {m : Nat} {es : Array MapEntry} {k : Nat} (hm : w.heap[m]? = some (.map es k)) : v.ownBlock ≠ some m := by
  obtain ⟨h1, ⟨rfl, _⟩ | ⟨g, c, cur, hv, hg, hh, r⟩⟩ := h
  · simp [Value.ownBlock]
  · subst hv
    intro hq
    simp [Value.ownBlock] at hq
    subst hq
    rw [hm] at hh
    cases hh
theorem own_setMap {w : World} {base e size n : Nat} {v : Value} {xs : List Value} (h : w.ownsRow base e size v n xs) {m : Nat} {es : Array MapEntry} {k : Nat} (hm : w.heap[m]? = some (.map es k)) (o : Obj) : (setBlock w m o).ownsRow base e size v n xs :=
  h.kept (setBlock_grown w m o) (.inr (own_notMap h hm))
theorem OwnG.setMap {w : World} {lo : Nat} {L : List GrpR} (h : OwnG w lo L) {m : Nat} {es : Array MapEntry} {k : Nat} (hm : w.heap[m]? = some (.map es k)) (o : Obj) : OwnG (setBlock w m o) lo L := ⟨fun y hy => own_setMap (h.1 y hy) hm o, h.2⟩
theorem OwnG.put {w w' : World} {lo : Nat} {L : List GrpR} (h : OwnG w lo L) {j : Nat} {y : GrpR} (hj : L[j]? = some y) (hg : w.grownBy w' (grpV y).ownBlock) {A : Option Addr} {c n : Nat} {l : List GlossD} (hn : n = l.length) (hown : w'.ownsRow lo 55 6 (.slice A n c) n (l.flatMap cellsGL))
    (hat : (Value.slice A n c).ownBlock = (grpV y).ownBlock ∨ (Value.slice A n c).ownBlock = some w.heap.size) : OwnG w' lo (L.set j ⟨y.au, y.st, A, c, l⟩) := by
  subst hn
  have hlt := lt_of_at hj
  have hoff : ∀ (i : Nat) (z : GrpR), L[i]? = some z → i ≠ j → (grpV z).ownBlock = none ∨ (grpV z).ownBlock ≠ (grpV y).ownBlock := fun i z hi hne => by
    cases hz : (grpV z).ownBlock with
    | none => exact .inl rfl
    | some q =>
      refine .inr fun e => ?_
      obtain ⟨li, ei⟩ := List.getElem?_eq_some_iff.1 hi
      obtain ⟨lj, ej⟩ := List.getElem?_eq_some_iff.1 hj
      rcases Nat.lt_or_gt_of_ne hne with g | g
      · have := List.pairwise_iff_getElem.1 h.2 i j li lj g
        rw [ei, ej] at this
        exact this q hz e.symm
      · have := List.pairwise_iff_getElem.1 h.2 j i lj li g
        rw [ei, ej] at this
        exact this q e.symm hz
  have hnew : ∀ (i : Nat) (z : GrpR) (q : Nat), L[i]? = some z → i ≠ j → (grpV z).ownBlock = some q → (Value.slice A l.length c).ownBlock ≠ some q := fun i z q hi hne hz e => by
    rcases hat with h1 | h1
    · rcases hoff i z hi hne with h2 | h2
      · rw [hz] at h2; cases h2
      · exact h2 (by rw [hz, ← h1, e])
    · rw [h1] at e
      have hq := own_lt (h.1 z (List.mem_of_getElem? hi)) q hz
      injection e with e
      omega
  refine ⟨fun z hz => ?_, List.pairwise_iff_getElem.2 fun i k li lk hik q hq => ?_⟩
  · obtain ⟨i, hi⟩ := List.mem_iff_getElem?.1 hz
    by_cases e : j = i
    · subst e
      rw [List.getElem?_set_self hlt] at hi
      obtain rfl := Option.some.inj hi
      exact hown
    · rw [List.getElem?_set_ne e] at hi
      exact (h.1 z (List.mem_of_getElem? hi)).kept hg (hoff i z hi (fun q => e q.symm))
  · rw [List.length_set] at li lk
    have gi : (L.set j ⟨y.au, y.st, A, c, l⟩)[i]? = some (L.set j ⟨y.au, y.st, A, c, l⟩)[i] := List.getElem?_eq_getElem _
    have gk : (L.set j ⟨y.au, y.st, A, c, l⟩)[k]? = some (L.set j ⟨y.au, y.st, A, c, l⟩)[k] := List.getElem?_eq_getElem _
    generalize (L.set j ⟨y.au, y.st, A, c, l⟩)[i] = zi at gi hq
    generalize (L.set j ⟨y.au, y.st, A, c, l⟩)[k] = zk at gk ⊢
    by_cases ei : j = i
    · subst ei
      rw [List.getElem?_set_self hlt] at gi
      obtain rfl := Option.some.inj gi
      rw [List.getElem?_set_ne (by omega)] at gk
      intro hk
      exact hnew k zk q gk (by omega) hk hq
    · rw [List.getElem?_set_ne ei] at gi
      by_cases ek : j = k
      · subst ek
        rw [List.getElem?_set_self hlt] at gk
        obtain rfl := Option.some.inj gk
        exact hnew i zi q gi (by omega) hq
      · rw [List.getElem?_set_ne ek] at gk
        obtain ⟨_, e1⟩ := List.getElem?_eq_some_iff.1 gi
        obtain ⟨_, e2⟩ := List.getElem?_eq_some_iff.1 gk
        have := List.pairwise_iff_getElem.1 h.2 i k li lk hik
        rw [e1, e2] at this
        exact this q hq
theorem below_setMap {W w : World} {m : Nat} (h : Below m W w) (hm : m ≤ w.heap.size) (o : Obj) : Below m W (setBlock w m o) :=
  h.grown (setBlock_grown w m o) hm (fun k hk => by injection hk with hk; omega)
/-- the entry for a message that is not among its group -/
theorem entry_step {w : World} {m : Nat} {ms : List GlossD} {L : List GrpR} (h : GrpsAt w m L) (inv : InvG ms L) {x : GlossD} (hc : contD L x = false) :
    ∃ (L1 : List GrpR) (j : Nat) (y : GrpR), L1[j]? = some y ∧ (Instr.mapEntry 93 (.map (some m)) (keyV x.author x.stamp)).run Try.prog w = .ok (.tuple #[grpV y, goInt j]) (setBlock w m (.map (entsG L1) L1.length)) ∧
      (L1 = L ∨ L1 = L ++ [⟨x.author, x.stamp, none, 0, []⟩]) ∧ ∀ A c, InvG (ms ++ [x]) (L1.set j ⟨y.au, y.st, A, c, y.l ++ [x]⟩) := by
  cases hf : findG L x.author x.stamp with
  | none =>
    refine ⟨_, L.length, ⟨x.author, x.stamp, none, 0, []⟩, by simp, ?_, .inr rfl, fun A c => ?_⟩
    · rw [run_entryNew h hf, List.length_append]
      rfl
    · have e : (L ++ [(⟨x.author, x.stamp, none, 0, []⟩ : GrpR)]).set L.length ⟨x.author, x.stamp, A, c, [x]⟩ = L ++ [⟨x.author, x.stamp, A, c, [x]⟩] := by simp
      show InvG _ ((L ++ [(⟨x.author, x.stamp, none, 0, []⟩ : GrpR)]).set L.length ⟨x.author, x.stamp, A, c, [x]⟩)
      rw [e]
      exact inv.new hf A c
  | some p =>
    obtain ⟨j, y⟩ := p
    exact ⟨L, j, y, (findG_some hf).1, run_entryOld h hf, .inl rfl, fun A c => inv.more hf hc A c⟩

end Go.Proofs.Ytinlojealfbbfaa
