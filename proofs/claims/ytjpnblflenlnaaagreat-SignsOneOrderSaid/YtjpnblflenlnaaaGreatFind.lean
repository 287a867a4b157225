/- Find: the program's. -/
import Derived.Test.YtjpnblflenlnaaaGreatReadSeen
import Derived.Test.YtjpnblflenlnaaaGreatBookSet
namespace Go.Proofs.YtjpnblflenlnaaaGreat
open Go.RowKit

def findErr (l : List EntryD) (s : SeenD) : Int := if bookErr l = 0 then (if okSeen s = true then 0 else 13) else bookErr l
/-- r holds just the signs of the entries that agree, in ascending order -/
def FoundD (s : SeenD) (l : List EntryD) (r : List Int) : Prop := r.Pairwise (· < ·) ∧ ∀ x, x ∈ r ↔ ∃ y ∈ l, agreesD s (canonE y) = true ∧ y.sign = x
theorem FoundD.unique {s : SeenD} {l : List EntryD} {a b : List Int} (ha : FoundD s l a) (hb : FoundD s l b) : a = b :=
  ascending_eq ha.1 hb.1 fun x => (ha.2 x).trans (hb.2 x).symm
theorem FoundD.of_book {s : SeenD} {l : List EntryD} {bk : List EntryR} {r : List Int} (h : SignsOf s bk r) (hb : IsBookOf l (bk.map (·.d))) : FoundD s l r := by
  refine ⟨h.1, fun x => (h.2 x).trans ?_⟩
  constructor
  · rintro ⟨y, hy, ha, rfl⟩
    obtain ⟨z, hz, e⟩ := (hb.mem y.d).1 (List.mem_map.2 ⟨y, hy, rfl⟩)
    exact ⟨z, hz, by rw [e]; exact ha, by rw [← e]; rfl⟩
  · rintro ⟨z, hz, ha, rfl⟩
    obtain ⟨y, hy, e⟩ := List.mem_map.1 ((hb.mem _).2 ⟨z, hz, rfl⟩)
    exact ⟨y, hy, by rw [e]; exact ha, by rw [e]; rfl⟩
/-- what Find leaves -/
def FindPost (l : List EntryD) (s : SeenD) (w : World) (e : Ending) (w' : World) : Prop :=
  Below w.heap.size w w' ∧ ∃ A cap r, e = .returned (.tuple #[.slice A (List.length r) cap, .int .i64 (findErr l s)]) ∧ IntsF w' w.heap.size A r ∧ (findErr l s ≠ 0 → A = none ∧ r = []) ∧ (findErr l s = 0 → FoundD s l r)
theorem okEntry_form {x : EntryD} (h : okEntry x = true) : okForm x.form = true := by
  simp only [okEntry, Bool.and_eq_true] at h
  exact h.2.2.2.2.2.2
theorem bookErr_ok {l : List EntryD} (h : bookErr l = 0) : l.length ≤ 40 ∧ (∀ x ∈ l, okEntry x = true) ∧ Agreed l := by
  unfold bookErr at h
  by_cases h1 : (decide (l.length ≤ 40) && l.all okEntry) = true
  · rw [if_pos h1] at h
    by_cases h2 : (readD [] l).isSome = true
    · rw [Bool.and_eq_true, decide_eq_true_eq, List.all_eq_true] at h1
      exact ⟨h1.1, h1.2, readD_isSome.1 h2⟩
    · rw [if_neg h2] at h; omega
  · rw [if_neg h1] at h; omega
/-- the entries of a book that was read have valid forms -/
theorem book_forms {l : List EntryD} {bk : List EntryR} (h : bookErr l = 0) (hb : IsBookOf l (bk.map (·.d))) : ∀ y ∈ bk, okForm y.d.form = true := fun y hy => by
  obtain ⟨z, hz, e⟩ := (hb.mem y.d).1 (List.mem_map.2 ⟨y, hy, rfl⟩)
  rw [← e]
  exact okForm_canon (okEntry_form ((bookErr_ok h).2.1 z hz))
set_option maxRecDepth 100000 in
set_option maxHeartbeats 4000000 in
theorem Find_any (A A' : Option Addr) (cap cap' B : Nat) (l : List EntryR) (s : SeenD) (w : World) (hA : Ents w B A l) (hl : l.length ≤ 1000000) (hA' : Ints w B A' s.moves) (hl' : s.moves.length ≤ 1000000) (hB : B ≤ w.heap.size) :
    Calls Tryz.prog 36 #[.slice A l.length cap, seenV s A' cap'] w (FindPost (l.map (·.d)) s w) := by
  have HR := Lib.hid (fun w0 (h : Grow w w0) => readSeen_any A A' cap cap' w.heap.size l s w0 ((hA.more hB).below h) hl ((hA'.more hB).below h) hl' h.size)
  have HA' := Lib.hid (hA'.more hB)
  clear hA hA'
  go_enter Tryz.func36, Tryz.ntmps36
  go_upto_region 1 with fail
  obtain ⟨W, hW, hg, hf, hsz⟩ := one_block w 50 (cellsS s A' cap')
  rw [hW]
  clear hW
  have HG := Lib.hid hg
  have hfc := hf.cell
  clear hf hg
  go_wp2_with fail
  refine (HR.out _ HG.out).mono ?_
  rintro e w2 ⟨hb2, hcase⟩
  have HG2 : Hid (Grow W w2) := hb2
  clear hb2 hfc
  rcases hcase with ⟨hne, rfl⟩ | ⟨heq, hok, rfl⟩ | ⟨heq, hok, m, bk, rfl, hm, hbk, hmv, hfar, hrd⟩
  · have HNE : Hid (bookErr (l.map (·.d)) ≠ 0) := hne
    generalize hbe : bookErr (l.map (·.d)) = be at hne
    have HBE := Lib.hid hbe
    clear hbe
    go_wp2
    go_ret2
    have hfe : findErr (l.map (·.d)) s = be := by unfold findErr; rw [HBE.out, if_neg hne]
    refine ⟨(HG.out.trans HG2.out).trans (Grow.alloc _ _), none, 0, [], by rw [hfe]; rfl, .inl rfl, fun _ => ⟨rfl, rfl⟩, fun h => absurd h (by rw [hfe]; exact hne)⟩
  · have hfe : findErr (l.map (·.d)) s = 13 := by unfold findErr; rw [if_pos heq, hok]; rfl
    have HFE := Lib.hid hfe
    clear heq hok hfe
    go_wp2
    go_ret2
    refine ⟨(HG.out.trans HG2.out).trans (Grow.alloc _ _), none, 0, [], by rw [HFE.out]; rfl, .inl rfl, fun _ => ⟨rfl, rfl⟩, fun h => absurd h (by rw [HFE.out]; decide)⟩
  · have hfe : findErr (l.map (·.d)) s = 0 := by unfold findErr; rw [if_pos heq, if_pos hok]
    have hbo := readD_book hrd
    have hlen : bk.length ≤ 1000000 := by have := hbo.length; simp at this; omega
    have hg3 : Grow w2 (w2.alloc (.cells (cellsS s A' cap') 100)) := Grow.alloc _ _
    have HS := Lib.hid (signs_any s A' cap' w.heap.size m bk (w2.alloc (.cells (cellsS s A' cap') 100)) (HA'.out.below ((HG.out.trans HG2.out).trans hg3)) ((HG.out.trans HG2.out).trans hg3).size (SeenIn.of_ok hok) (hbk.grow hg3)
      (fun y hy => ((hmv.grow hg3) y hy).1.1) (book_forms heq hbo) hlen)
    have HFE := Lib.hid hfe
    have HBO := Lib.hid hbo
    clear heq hok hm hbk hmv hfar hrd hfe hbo hg3
    go_wp2_with fail
    refine HS.out.mono ?_
    rintro e w3 ⟨A3, cap3, r, rfl, hsi, hri, hb3⟩
    have HSI := Lib.hid hsi
    have HRI := Lib.hid hri
    have HG3 : Hid (Grow _ w3) := hb3
    clear hsi hri hb3
    go_wp2
    go_ret2
    have hgw := ((HG.out.trans HG2.out).trans (Grow.alloc _ _)).trans HG3.out
    refine ⟨hgw, A3, cap3, r, by rw [HFE.out]; rfl, HRI.out.mono (by have := (HG.out.trans HG2.out).size; simp; omega), fun h => absurd HFE.out h, fun _ => FoundD.of_book HSI.out HBO.out⟩

end Go.Proofs.YtjpnblflenlnaaaGreat
