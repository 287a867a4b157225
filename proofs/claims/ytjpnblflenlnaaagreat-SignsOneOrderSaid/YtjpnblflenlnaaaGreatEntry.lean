/- Entries and books in memory; which are valid. -/
import Derived.Test.YtjpnblflenlnaaaGreatValid
import Derived.Test.YtjpnblflenlnaaaGreatCanon
namespace Go.Proofs.YtjpnblflenlnaaaGreat
open Go.RowKit

structure EntryD where
  id : Int
  sign : Int
  regions : Int
  form : FormD
  low : Int
  high : Int
  deriving DecidableEq
def okEntry (x : EntryD) : Bool :=
  inB x.id 0 99 && (inB x.sign 0 999 && (inB x.regions 1 255 && (decide (0 ≤ x.low) && (decide (x.low ≤ x.high) && (decide (x.high ≤ 120) && okForm x.form)))))
/-- an entry with the place of its moves -/
structure EntryR where
  d : EntryD
  A : Option Addr
  cap : Nat
abbrev cellsE (x : EntryR) : Array Value := #[.int .i64 x.d.id, .int .i64 x.d.sign, .int .i64 x.d.regions, .int .i64 x.d.form.right, .int .i64 x.d.form.left, .int .i64 x.d.form.column, .int .i64 x.d.form.row, .int .i64 x.d.form.face,
  .slice x.A x.d.form.moves.length x.cap, .int .i64 x.d.low, .int .i64 x.d.high]
abbrev entryV (x : EntryR) : Value := .agg (cellsE x)
/-- the moves of an entry lie where it says -/
def MovesAt (w : World) (B : Nat) (x : EntryR) : Prop := Ints w B x.A x.d.form.moves ∧ x.d.form.moves.length ≤ 1000000
theorem MovesAt.below {w w' : World} {B : Nat} {x : EntryR} (h : MovesAt w B x) (hb : Below B w w') : MovesAt w' B x := ⟨h.1.below hb, h.2⟩
theorem MovesAt.more {w : World} {B B' : Nat} {x : EntryR} (h : MovesAt w B x) (hb : B ≤ B') : MovesAt w B' x := ⟨h.1.more hb, h.2⟩
/-- the entries l lie at A, in blocks below B -/
def Ents (w : World) (B : Nat) (A : Option Addr) (l : List EntryR) : Prop :=
  (l = [] ∨ ∃ b off, A = some ⟨b, off, none⟩ ∧ b < B ∧ ∀ i x, l[i]? = some x → ∀ j, j < 11 → w.cell? ⟨b, off + i * 11 + j, none⟩ = (cellsE x)[j]?) ∧ ∀ x, x ∈ l → MovesAt w B x
theorem Ents.below {w w' : World} {B : Nat} {A : Option Addr} {l : List EntryR} (h : Ents w B A l) (hb : Below B w w') : Ents w' B A l := by
  refine ⟨?_, fun x hx => (h.2 x hx).below hb⟩
  rcases h.1 with rfl | ⟨b, off, rfl, hl, hc⟩
  · exact .inl rfl
  · exact .inr ⟨b, off, rfl, hl, fun i x hi j hj => (hb.cell (p := ⟨b, off + i * 11 + j, none⟩) hl).trans (hc i x hi j hj)⟩
theorem Ents.more {w : World} {B B' : Nat} {A : Option Addr} {l : List EntryR} (h : Ents w B A l) (hb : B ≤ B') : Ents w B' A l := by
  refine ⟨?_, fun x hx => (h.2 x hx).more hb⟩
  rcases h.1 with rfl | ⟨b, off, rfl, hl, hc⟩
  · exact .inl rfl
  · exact .inr ⟨b, off, rfl, by omega, hc⟩
theorem Ents.at_ {w : World} {B : Nat} {A : Option Addr} {l : List EntryR} (h : Ents w B A l) {k : Nat} (hk : k < l.length) :
    ∃ b off x, A = some ⟨b, off, none⟩ ∧ b < B ∧ (∀ j, j < 11 → w.cell? ⟨b, off + k * 11 + j, none⟩ = (cellsE x)[j]?) ∧ MovesAt w B x ∧ Hid (l[k]? = some x) := by
  rcases h.1 with rfl | ⟨b, off, rfl, hb, hc⟩
  · simp at hk
  · exact ⟨b, off, l[k], rfl, hb, hc k _ (List.getElem?_eq_getElem hk), h.2 _ (List.getElem_mem hk), List.getElem?_eq_getElem hk⟩

set_option maxHeartbeats 400000 in
theorem validSpan_any (lo hi : Int) (w : World) :
    Calls Tryz.prog 107 #[.agg #[.int .i64 lo, .int .i64 hi]] w fun e w' => e = .returned (.bool (decide (lo ≤ hi))) ∧ Below w.heap.size w w' := by
  go_enter Tryz.func107, Tryz.ntmps107
  go_wp2
  go_ret
  exact ⟨rfl, by (repeat (first | (with_reducible exact Below.refl _ _) | (with_reducible assumption) | (with_reducible refine Below.drewN_ ?_ _) | (with_reducible refine Below.drew ?_) | (with_reducible refine Below.alloc ?_ (by first | omega | (simp <;> omega)) _) | (with_reducible refine Below.setCell ?_ (by first | omega | (simp <;> omega)) _)))⟩

set_option maxRecDepth 100000 in
set_option maxHeartbeats 2000000 in
theorem validEntry_any (x : EntryR) (B : Nat) (w : World) (hm : MovesAt w B x) (hB : B ≤ w.heap.size) :
    Calls Tryz.prog 88 #[entryV x] w fun e w' => e = .returned (.bool (okEntry x.d)) ∧ Below w.heap.size w w' := by
  obtain ⟨⟨id, sign, regions, f, low, high⟩, A, cap⟩ := x
  obtain ⟨hA, hl⟩ := hm
  dsimp only at *
  have HA := Lib.hid (hA.more hB)
  clear hA
  go_enter Tryz.func88, Tryz.ntmps88
  go_wp2_with fail
  obtain ⟨W, hW, hg, hf, hsz⟩ := one_block w 62 (cellsE ⟨⟨id, sign, regions, f, low, high⟩, A, cap⟩)
  rw [hW]
  clear hW
  have hfc := hf.cell
  have HV := Lib.hid (fun w0 (h : Grow W w0) => validForm_any f A cap w.heap.size w0 (HA.out.below (hg.trans h)) hl (hg.trans h).size)
  have HS := Lib.hid (fun w0 (_ : Grow W w0) => validSpan_any low high w0)
  have HF := Lib.hid hf
  have HG := Lib.hid hg
  clear hf hg
  refine (within_any _ _ _ _).mono ?_
  rintro e w' ⟨rfl, rfl⟩
  go_wp2_with (first
    | (go_at_call 81; refine (within_any _ _ _ _).mono ?_; rintro e w' ⟨rfl, rfl⟩)
    | (go_at_call 107; refine (HS.out _ (Grow.refl _)).mono ?_; rintro e w2 ⟨rfl, hb2⟩; have hfc2 := (Grow.block hb2 HF.out).cell; have HB2 : Hid (Grow W w2) := hb2; clear hb2)
    | (go_at_call 49; first
        | (refine (HV.out _ HB2.out).mono ?_; rintro e w3 ⟨rfl, hb3⟩; have HB3 : Hid (Grow W w3) := Grow.trans HB2.out hb3; clear hb3)
        | (refine (HV.out _ (Grow.refl _)).mono ?_; rintro e w3 ⟨rfl, hb3⟩; have HB3 : Hid (Grow W w3) := hb3; clear hb3)))
  all_goals go_ret
  all_goals refine ⟨ret_bool ?_, ?_⟩
  all_goals first
    | exact HG.out.trans HB3.out
    | exact HG.out.trans HB2.out
    | exact HG.out
    | (simp [okEntry, *]; done)
    | (simp [okEntry, inB, *]; done)
    | (simp [okEntry, inB, *] at *; omega)

set_option maxRecDepth 100000 in
set_option maxHeartbeats 2000000 in
theorem indexFuncEntry_any (A : Option Addr) (cap B : Nat) (l : List EntryR) (w : World) (hA : Ents w B A l) (hl : l.length ≤ 1000000) (hB : B ≤ w.heap.size) (c : Value) (q : EntryD → Bool)
    (hp : ∀ x w', x ∈ l → Grow w w' → Calls Tryz.prog 106 #[entryV x, c] w' fun e w'' => e = .returned (.bool (q x.d)) ∧ Below w'.heap.size w' w'') :
    Calls Tryz.prog 127 #[.slice A l.length cap, .func (.func 106) #[] #[c]] w (IndexPostB ((l.map (·.d)).any q) w) := by
  have HP := Lib.hid hp
  clear hp
  go_enter Tryz.func127, Tryz.ntmps127
  go_wp2
  go_loopw [8] (fun i wr => ∃ k : Nat, k ≤ l.length ∧ i = .int .i64 k ∧ ((l.take k).map (·.d)).any q = false ∧ Grow w wr) (fun i _ => l.length - (intOf i).toNat)
  case atStart => exact ⟨0, Nat.zero_le _, rfl, rfl, Grow.refl _⟩
  case round =>
    obtain ⟨k, hk, rfl, hor, hg⟩ := hrel
    by_cases hlt : k < l.length
    · obtain ⟨b, off, x, rfl, hb, hc, hm, HX⟩ := (hA.below (Below.mono hg hB)).at_ hlt
      have HT : Hid (((l.take (k + 1)).map (·.d)).any q = q x.d) := by
        rw [Hid, take_snoc HX.out, List.map_append, List.any_append, hor]; simp
      have HG := Lib.hid hg
      have HM := Lib.hid hm
      have hmem : x ∈ l := List.mem_of_getElem? HX.out
      have hcx := fun j (hj : j < 11) => hc j hj
      have e0 := hc 0 (by omega); have e1 := hc 1 (by omega); have e2 := hc 2 (by omega); have e3 := hc 3 (by omega); have e4 := hc 4 (by omega); have e5 := hc 5 (by omega)
      have e6 := hc 6 (by omega); have e7 := hc 7 (by omega); have e8 := hc 8 (by omega); have e9 := hc 9 (by omega); have e10 := hc 10 (by omega)
      rw [Nat.add_zero] at e0
      clear hA hor hg hm hc hcx
      go_wp2_with fail
      refine (HP.out x wr hmem HG.out).mono ?_
      rintro e w2 ⟨rfl, hb2⟩
      have HG2 := Lib.hid (HG.out.trans hb2)
      clear hb2
      go_wp2
      · go_ret
        refine ⟨k, ?_, rfl, HG2.out⟩
        have : (l.map (·.d)).any q = true := by
          have h1 : ((l.take (k + 1)).map (·.d)).any q = true := by rw [HT.out]; assumption
          rw [List.map_take] at h1
          exact any_of_take q h1
        rw [this]; simp
      · go_roundw
        case rel => exact ⟨k + 1, by omega, by go_num, by rw [HT.out]; assumption, HG2.out⟩
        case measure => simp [intOf]; omega
    · obtain rfl : k = l.length := by omega
      have HO := Lib.hid hor
      clear hor hA
      go_wp2
      go_ret
      exact ⟨-1, by have := HO.out; rw [List.take_length] at this; rw [this]; rfl, rfl, hg⟩

set_option maxHeartbeats 400000 in
theorem containsFuncEntry_any (A : Option Addr) (cap B : Nat) (l : List EntryR) (w : World) (hA : Ents w B A l) (hl : l.length ≤ 1000000) (hB : B ≤ w.heap.size) (c : Value) (q : EntryD → Bool)
    (hp : ∀ x w', x ∈ l → Grow w w' → Calls Tryz.prog 106 #[entryV x, c] w' fun e w'' => e = .returned (.bool (q x.d)) ∧ Below w'.heap.size w' w'') :
    Calls Tryz.prog 105 #[.slice A l.length cap, .func (.func 106) #[] #[c]] w fun e w' => e = .returned (.bool ((l.map (·.d)).any q)) ∧ Below w.heap.size w w' := by
  have HI := Lib.hid (indexFuncEntry_any A cap B l w hA hl hB c q hp)
  clear hp hA
  go_enter Tryz.func105, Tryz.ntmps105
  go_wp2_with fail
  refine HI.out.mono ?_
  rintro e w' ⟨n, hn, rfl, hb⟩
  have HN := Lib.hid hn
  have HB := Lib.hid hb
  clear hn hb
  go_wp2
  go_ret
  exact ⟨ret_bool HN.out, HB.out⟩

set_option maxHeartbeats 400000 in
theorem allOfEntry1_any (x : EntryR) (b : Nat) (g : Nat) (q : EntryD → Bool) (w : World) (hc : w.cell? ⟨b, 0, none⟩ = some (.func (.func g) #[] #[]))
    (eg : ∀ args w, (callFunc g args).run Tryz.prog w = .ok (.enter g args) w)
    (hq : ∀ w', Grow w w' → Calls Tryz.prog g #[entryV x] w' fun e w'' => e = .returned (.bool (q x.d)) ∧ Below w'.heap.size w' w'') :
    Calls Tryz.prog 106 #[entryV x, .pointer (some ⟨b, 0, none⟩)] w fun e w' => e = .returned (.bool (!q x.d)) ∧ Below w.heap.size w w' := by
  have HQ := Lib.hid hq
  have hca : ∀ o, (w.alloc o).cell? ⟨b, 0, none⟩ = some (.func (.func g) #[] #[]) := fun o => (Grow.alloc w o).cell hc
  clear hq hc
  go_enter Tryz.func106, Tryz.ntmps106
  go_wp2_with (first | (refine (HQ.out _ (Grow.alloc _ _)).mono ?_; rintro e w' ⟨rfl, hb⟩; have HB := Lib.hid hb; clear hb))
  go_ret
  exact ⟨rfl, (Grow.alloc w _).trans HB.out⟩

set_option maxHeartbeats 400000 in
theorem allOfEntry_any (A : Option Addr) (cap B : Nat) (l : List EntryR) (m : Int) (w : World) (hA : Ents w B A l) (hl : l.length ≤ 1000000) (hB : B ≤ w.heap.size) (g : Nat) (q : EntryD → Bool)
    (eg : ∀ args w, (callFunc g args).run Tryz.prog w = .ok (.enter g args) w)
    (hq : ∀ x w', x ∈ l → Grow w w' → Calls Tryz.prog g #[entryV x] w' fun e w'' => e = .returned (.bool (q x.d)) ∧ Below w'.heap.size w' w'') :
    Calls Tryz.prog 87 #[.slice A l.length cap, .int .i64 m, .func (.func g) #[] #[]] w fun e w' => e = .returned (.bool (decide ((l.length : Int) ≤ m) && (l.map (·.d)).all q)) ∧ Below w.heap.size w w' := by
  have hg : Grow w (w.alloc (.cells #[.func (.func g) #[] #[]] 98)) := Grow.alloc _ _
  have hcell : (w.alloc (.cells #[.func (.func g) #[] #[]] 98)).cell? ⟨w.heap.size, 0, none⟩ = some (.func (.func g) #[] #[]) := by simp
  have hC := containsFuncEntry_any A cap w.heap.size l _ ((hA.more hB).below hg) hl hg.size (.pointer (some ⟨w.heap.size, 0, none⟩)) (fun x => !q x)
    (fun x w' hx hw => allOfEntry1_any x w.heap.size g q w' (hw.cell hcell) eg (fun w'' hw' => hq x w'' hx (hg.trans (hw.trans hw'))))
  have HC := Lib.hid hC
  have HGG := Lib.hid hg
  clear hC hA hq hg hcell
  go_enter Tryz.func87, Tryz.ntmps87
  go_wp2_with (first | (go_at_call 105; refine HC.out.mono ?_; rintro e w' ⟨rfl, hb⟩; have HB := Lib.hid hb; clear hb))
  all_goals go_ret
  · refine ⟨ret_bool ?_, HGG.out.trans HB.out⟩
    simp [List.not_any_eq_all_not, *]
    rfl
  · refine ⟨ret_bool ?_, HGG.out⟩
    have h : decide ((l.length : Int) ≤ m) = false := by simp; omega
    rw [h]; rfl

end Go.Proofs.YtjpnblflenlnaaaGreat
