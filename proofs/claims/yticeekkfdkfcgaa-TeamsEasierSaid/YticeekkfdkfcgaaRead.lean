/- Read: crews and jobs read by the program; written by wip/tools/read3.py. -/
import Derived.Test.YticeekkfdkfcgaaBreaches
import Derived.Test.YticeekkfdkfcgaaRegion
namespace Go.Proofs.Yticeekkfdkfcgaa
open Go.RowKit

theorem stores13 {w : World} {b : Nat} {t : TypeId} {c0 c1 c2 c3 c4 c5 c6 c7 c8 c9 c10 c11 c12 : Value} (h : BlockIs w b t #[c0, c1, c2, c3, c4, c5, c6, c7, c8, c9, c10, c11, c12]) (v0 v1 v2 v3 v4 v5 v6 v7 v8 v9 v10 v11 v12 : Value) :
    BlockIs (((((((((((((w.setCell ⟨b, 0, none⟩ v0).setCell ⟨b, 1, none⟩ v1).setCell ⟨b, 2, none⟩ v2).setCell ⟨b, 3, none⟩ v3).setCell ⟨b, 4, none⟩ v4).setCell ⟨b, 5, none⟩ v5).setCell ⟨b, 6, none⟩ v6).setCell ⟨b, 7, none⟩ v7).setCell ⟨b, 8, none⟩ v8).setCell ⟨b, 9, none⟩ v9).setCell ⟨b, 10, none⟩ v10).setCell ⟨b, 11, none⟩ v11).setCell ⟨b, 12, none⟩ v12) b t #[v0, v1, v2, v3, v4, v5, v6, v7, v8, v9, v10, v11, v12] :=
  by
  have h0 : BlockIs (w.setCell ⟨b, 0, none⟩ v0) b t #[v0, c1, c2, c3, c4, c5, c6, c7, c8, c9, c10, c11, c12] := h.near 0 v0
  have h1 : BlockIs ((w.setCell ⟨b, 0, none⟩ v0).setCell ⟨b, 1, none⟩ v1) b t #[v0, v1, c2, c3, c4, c5, c6, c7, c8, c9, c10, c11, c12] := h0.near 1 v1
  have h2 : BlockIs (((w.setCell ⟨b, 0, none⟩ v0).setCell ⟨b, 1, none⟩ v1).setCell ⟨b, 2, none⟩ v2) b t #[v0, v1, v2, c3, c4, c5, c6, c7, c8, c9, c10, c11, c12] := h1.near 2 v2
  have h3 : BlockIs ((((w.setCell ⟨b, 0, none⟩ v0).setCell ⟨b, 1, none⟩ v1).setCell ⟨b, 2, none⟩ v2).setCell ⟨b, 3, none⟩ v3) b t #[v0, v1, v2, v3, c4, c5, c6, c7, c8, c9, c10, c11, c12] := h2.near 3 v3
  have h4 : BlockIs (((((w.setCell ⟨b, 0, none⟩ v0).setCell ⟨b, 1, none⟩ v1).setCell ⟨b, 2, none⟩ v2).setCell ⟨b, 3, none⟩ v3).setCell ⟨b, 4, none⟩ v4) b t #[v0, v1, v2, v3, v4, c5, c6, c7, c8, c9, c10, c11, c12] := h3.near 4 v4
  have h5 : BlockIs ((((((w.setCell ⟨b, 0, none⟩ v0).setCell ⟨b, 1, none⟩ v1).setCell ⟨b, 2, none⟩ v2).setCell ⟨b, 3, none⟩ v3).setCell ⟨b, 4, none⟩ v4).setCell ⟨b, 5, none⟩ v5) b t #[v0, v1, v2, v3, v4, v5, c6, c7, c8, c9, c10, c11, c12] := h4.near 5 v5
  have h6 : BlockIs (((((((w.setCell ⟨b, 0, none⟩ v0).setCell ⟨b, 1, none⟩ v1).setCell ⟨b, 2, none⟩ v2).setCell ⟨b, 3, none⟩ v3).setCell ⟨b, 4, none⟩ v4).setCell ⟨b, 5, none⟩ v5).setCell ⟨b, 6, none⟩ v6) b t #[v0, v1, v2, v3, v4, v5, v6, c7, c8, c9, c10, c11, c12] := h5.near 6 v6
  have h7 : BlockIs ((((((((w.setCell ⟨b, 0, none⟩ v0).setCell ⟨b, 1, none⟩ v1).setCell ⟨b, 2, none⟩ v2).setCell ⟨b, 3, none⟩ v3).setCell ⟨b, 4, none⟩ v4).setCell ⟨b, 5, none⟩ v5).setCell ⟨b, 6, none⟩ v6).setCell ⟨b, 7, none⟩ v7) b t #[v0, v1, v2, v3, v4, v5, v6, v7, c8, c9, c10, c11, c12] := h6.near 7 v7
  have h8 : BlockIs (((((((((w.setCell ⟨b, 0, none⟩ v0).setCell ⟨b, 1, none⟩ v1).setCell ⟨b, 2, none⟩ v2).setCell ⟨b, 3, none⟩ v3).setCell ⟨b, 4, none⟩ v4).setCell ⟨b, 5, none⟩ v5).setCell ⟨b, 6, none⟩ v6).setCell ⟨b, 7, none⟩ v7).setCell ⟨b, 8, none⟩ v8) b t #[v0, v1, v2, v3, v4, v5, v6, v7, v8, c9, c10, c11, c12] := h7.near 8 v8
  have h9 : BlockIs ((((((((((w.setCell ⟨b, 0, none⟩ v0).setCell ⟨b, 1, none⟩ v1).setCell ⟨b, 2, none⟩ v2).setCell ⟨b, 3, none⟩ v3).setCell ⟨b, 4, none⟩ v4).setCell ⟨b, 5, none⟩ v5).setCell ⟨b, 6, none⟩ v6).setCell ⟨b, 7, none⟩ v7).setCell ⟨b, 8, none⟩ v8).setCell ⟨b, 9, none⟩ v9) b t #[v0, v1, v2, v3, v4, v5, v6, v7, v8, v9, c10, c11, c12] := h8.near 9 v9
  have h10 : BlockIs (((((((((((w.setCell ⟨b, 0, none⟩ v0).setCell ⟨b, 1, none⟩ v1).setCell ⟨b, 2, none⟩ v2).setCell ⟨b, 3, none⟩ v3).setCell ⟨b, 4, none⟩ v4).setCell ⟨b, 5, none⟩ v5).setCell ⟨b, 6, none⟩ v6).setCell ⟨b, 7, none⟩ v7).setCell ⟨b, 8, none⟩ v8).setCell ⟨b, 9, none⟩ v9).setCell ⟨b, 10, none⟩ v10) b t #[v0, v1, v2, v3, v4, v5, v6, v7, v8, v9, v10, c11, c12] := h9.near 10 v10
  have h11 : BlockIs ((((((((((((w.setCell ⟨b, 0, none⟩ v0).setCell ⟨b, 1, none⟩ v1).setCell ⟨b, 2, none⟩ v2).setCell ⟨b, 3, none⟩ v3).setCell ⟨b, 4, none⟩ v4).setCell ⟨b, 5, none⟩ v5).setCell ⟨b, 6, none⟩ v6).setCell ⟨b, 7, none⟩ v7).setCell ⟨b, 8, none⟩ v8).setCell ⟨b, 9, none⟩ v9).setCell ⟨b, 10, none⟩ v10).setCell ⟨b, 11, none⟩ v11) b t #[v0, v1, v2, v3, v4, v5, v6, v7, v8, v9, v10, v11, c12] := h10.near 11 v11
  have h12 : BlockIs (((((((((((((w.setCell ⟨b, 0, none⟩ v0).setCell ⟨b, 1, none⟩ v1).setCell ⟨b, 2, none⟩ v2).setCell ⟨b, 3, none⟩ v3).setCell ⟨b, 4, none⟩ v4).setCell ⟨b, 5, none⟩ v5).setCell ⟨b, 6, none⟩ v6).setCell ⟨b, 7, none⟩ v7).setCell ⟨b, 8, none⟩ v8).setCell ⟨b, 9, none⟩ v9).setCell ⟨b, 10, none⟩ v10).setCell ⟨b, 11, none⟩ v11).setCell ⟨b, 12, none⟩ v12) b t #[v0, v1, v2, v3, v4, v5, v6, v7, v8, v9, v10, v11, v12] := h11.near 12 v12
  exact h12
theorem below13 {w : World} {B b : Nat} (hb : B ≤ b) (v0 v1 v2 v3 v4 v5 v6 v7 v8 v9 v10 v11 v12 : Value) :
    Below B w (((((((((((((w.setCell ⟨b, 0, none⟩ v0).setCell ⟨b, 1, none⟩ v1).setCell ⟨b, 2, none⟩ v2).setCell ⟨b, 3, none⟩ v3).setCell ⟨b, 4, none⟩ v4).setCell ⟨b, 5, none⟩ v5).setCell ⟨b, 6, none⟩ v6).setCell ⟨b, 7, none⟩ v7).setCell ⟨b, 8, none⟩ v8).setCell ⟨b, 9, none⟩ v9).setCell ⟨b, 10, none⟩ v10).setCell ⟨b, 11, none⟩ v11).setCell ⟨b, 12, none⟩ v12) :=
  ((((((((((((((Below.refl B w).setCell (p := ⟨b, 0, none⟩) hb v0).setCell (p := ⟨b, 1, none⟩) hb v1).setCell (p := ⟨b, 2, none⟩) hb v2).setCell (p := ⟨b, 3, none⟩) hb v3).setCell (p := ⟨b, 4, none⟩) hb v4).setCell (p := ⟨b, 5, none⟩) hb v5).setCell (p := ⟨b, 6, none⟩) hb v6).setCell (p := ⟨b, 7, none⟩) hb v7).setCell (p := ⟨b, 8, none⟩) hb v8).setCell (p := ⟨b, 9, none⟩) hb v9).setCell (p := ⟨b, 10, none⟩) hb v10).setCell (p := ⟨b, 11, none⟩) hb v11).setCell (p := ⟨b, 12, none⟩) hb v12)
theorem far13 {w : World} {b q : Nat} {t : TypeId} {cs : Array Value} (h : BlockIs w q t cs) (hn : q ≠ b) (v0 v1 v2 v3 v4 v5 v6 v7 v8 v9 v10 v11 v12 : Value) : BlockIs (((((((((((((w.setCell ⟨b, 0, none⟩ v0).setCell ⟨b, 1, none⟩ v1).setCell ⟨b, 2, none⟩ v2).setCell ⟨b, 3, none⟩ v3).setCell ⟨b, 4, none⟩ v4).setCell ⟨b, 5, none⟩ v5).setCell ⟨b, 6, none⟩ v6).setCell ⟨b, 7, none⟩ v7).setCell ⟨b, 8, none⟩ v8).setCell ⟨b, 9, none⟩ v9).setCell ⟨b, 10, none⟩ v10).setCell ⟨b, 11, none⟩ v11).setCell ⟨b, 12, none⟩ v12) q t cs :=
  (((((((((((((h.far (p := ⟨b, 0, none⟩) hn v0).far (p := ⟨b, 1, none⟩) hn v1).far (p := ⟨b, 2, none⟩) hn v2).far (p := ⟨b, 3, none⟩) hn v3).far (p := ⟨b, 4, none⟩) hn v4).far (p := ⟨b, 5, none⟩) hn v5).far (p := ⟨b, 6, none⟩) hn v6).far (p := ⟨b, 7, none⟩) hn v7).far (p := ⟨b, 8, none⟩) hn v8).far (p := ⟨b, 9, none⟩) hn v9).far (p := ⟨b, 10, none⟩) hn v10).far (p := ⟨b, 11, none⟩) hn v11).far (p := ⟨b, 12, none⟩) hn v12)
abbrev zeroT : Array Value := #[.int .i64 0, .slice none 0 0, .slice none 0 0, .int .i64 0, .int .i64 0, .int .i64 0, .int .i64 0, .int .i64 0, .int .i64 0, .int .i64 0, .int .i64 0, .bool false, .slice none 0 0]
theorem results_task {fn : Func} (h : fn.results = #[.cell 4 63, .tmp 5]) (t : Array Value) (W : World) (b : Nat) (v0 v1 v2 v3 v4 v5 v6 v7 v8 v9 v10 v11 v12 u : Value)
    (hb : BlockIs W b 63 #[v0, v1, v2, v3, v4, v5, v6, v7, v8, v9, v10, v11, v12]) (ht : t.getD 4 undef = .pointer (some ⟨b, 0, none⟩)) (hu : t.getD 5 undef = u) :
    (results fn t).run Try.prog W = .ok (.tuple #[.agg #[v0, v1, v2, v3, v4, v5, v6, v7, v8, v9, v10, v11, v12], u]) W := by
  have hc := hb.cell
  simp only [results, h]
  simp at ht hu
  simp [go_sem, ht, hc, hu]

theorem okPerson_ok {n : Int} {p : PersonD} (h : okPerson n p = true) : PersonOK p := by
  unfold okPerson at h
  simp only [Bool.and_eq_true, decide_eq_true_eq] at h
  obtain ⟨⟨⟨_, h2, h3⟩, h4, _⟩, _⟩ := h
  have a := inB_iff.1 h2
  have b := inB_iff.1 h3
  exact ⟨by omega, a.1, a.2, b.1, b.2⟩
structure CrewOK (c : CrewD) : Prop where
  lang : 2 ≤ c.languages ∧ c.languages ≤ 5
  count : c.people.length ≤ 8
  people : ∀ p ∈ c.people, okPerson c.languages p = true
  laws : c.laws.length = 4
  law : ∀ l ∈ c.laws, 1 ≤ l.level ∧ l.level ≤ 5 ∧ 1 ≤ l.size ∧ l.size ≤ 8
theorem okCrew_ok {c : CrewD} (h : okCrew c = true) : CrewOK c := by
  unfold okCrew at h
  simp only [Bool.and_eq_true, decide_eq_true_eq, List.all_eq_true] at h
  obtain ⟨⟨h1, h2, h3⟩, h4, h5⟩ := h
  refine ⟨inB_iff.1 h1, h2, h3, h4, fun l hl => ?_⟩
  have := h5 l hl
  unfold okLaw at this
  simp only [Bool.and_eq_true] at this
  have a := inB_iff.1 this.1
  have b := inB_iff.1 this.2
  exact ⟨a.1, a.2, b.1, b.2⟩
structure JobAll (n : Int) (j : JobD) : Prop where
  fr : 0 ≤ j.fr ∧ j.fr ≤ n - 1
  dest : 0 ≤ j.dest ∧ j.dest ≤ n - 1
  ne : j.fr ≠ j.dest
  client : 0 ≤ j.client ∧ j.client ≤ 99
  field : 0 ≤ j.field ∧ j.field ≤ 7
  kind : 0 ≤ j.kind ∧ j.kind ≤ 3
  size : 1 ≤ j.size ∧ j.size ≤ 8
theorem okJob_ok {n : Int} {j : JobD} (h : okJob n j = true) : JobAll n j := by
  unfold okJob at h
  simp only [Bool.and_eq_true, decide_eq_true_eq] at h
  obtain ⟨⟨⟨h1, h2⟩, h3⟩, ⟨⟨h4, h5⟩, h6⟩, h7⟩ := h
  exact ⟨inB_iff.1 h1, inB_iff.1 h2, h3, inB_iff.1 h4, inB_iff.1 h5, inB_iff.1 h6, inB_iff.1 h7⟩
theorem JobAll.ok {n : Int} {j : JobD} (h : JobAll n j) : JobOK j := ⟨h.field.1, h.field.2, h.kind.1, h.kind.2⟩
/-- the law of the job's kind -/
def lawOf (c : CrewD) (j : JobD) : LawD := (c.laws[j.kind.toNat]?).getD ⟨0, 0, false⟩
theorem lawOf_at {c : CrewD} {j : JobD} (hc : CrewOK c) (hj : JobAll c.languages j) : c.laws[j.kind.toNat]? = some (lawOf c j) := by
  have h : j.kind.toNat < c.laws.length := by have := hj.kind; have := hc.laws; omega
  unfold lawOf
  rw [List.getElem?_eq_getElem h]
  rfl

/-- the sets of the rules that the people break, in a block of the call's own -/
def SetsV (lo : Nat) (c : CrewR) (j : JobD) (v : Value) (w : World) : Prop := ∃ sb, v = .slice (some ⟨sb, 0, none⟩) c.people.length c.people.length ∧ lo ≤ sb ∧ BlockIs w sb 3 (natCells (c.people.map fun x => breakD j x.d))
theorem SetsV.grow {lo : Nat} {c : CrewR} {j : JobD} {v : Value} {a b : World} (h : SetsV lo c j v a) (g : Grow a b) : SetsV lo c j v b := by
  obtain ⟨sb, h1, h2, h3⟩ := h
  exact ⟨sb, h1, h2, g.block h3⟩
/-- a task -/
def TaskV (lo : Nat) (c : CrewR) (j : JobD) (v : Value) (w : World) : Prop := ∃ sb, v = taskV c j (lawOf c.d j) (some ⟨sb, 0, none⟩) c.people.length ∧ lo ≤ sb ∧ BlockIs w sb 3 (natCells (c.people.map fun x => breakD j x.d))
theorem TaskV.grow {lo : Nat} {c : CrewR} {j : JobD} {v : Value} {a b : World} (h : TaskV lo c j v a) (g : Grow a b) : TaskV lo c j v b := by
  obtain ⟨sb, h1, h2, h3⟩ := h
  exact ⟨sb, h1, h2, g.block h3⟩
def TaskW (lo : Nat) (c : CrewR) (j : JobD) (law : LawD) (v : Value) (w : World) : Prop := ∃ sb, v = taskV c j law (some ⟨sb, 0, none⟩) c.people.length ∧ lo ≤ sb ∧ BlockIs w sb 3 (natCells (c.people.map fun x => breakD j x.d))
theorem TaskW.grow {lo : Nat} {c : CrewR} {j : JobD} {law : LawD} {v : Value} {a b : World} (h : TaskW lo c j law v a) (g : Grow a b) : TaskW lo c j law v b := by
  obtain ⟨sb, h1, h2, h3⟩ := h
  exact ⟨sb, h1, h2, g.block h3⟩
def ReadV (lo : Nat) (c : CrewR) (j : JobD) (er : Int) (v : Value) (w : World) : Prop := (er ≠ 0 → v = .agg zeroT) ∧ (er = 0 → okCrew c.d = true ∧ okJob c.languages j = true ∧ TaskV lo c j v w)

set_option maxRecDepth 100000 in
set_option maxHeartbeats 16000000 in
theorem read_any (c : CrewR) (j : JobD) (n : Nat) (w : World) (hA : CrewAt w n c) (hn : n ≤ w.heap.size) (hs : Short c) :
    Calls Try.prog 38 #[crewV c, jobV j] w fun e w' => ∃ v, e = .returned (.tuple #[v, .int .i64 (crewErr c.d j)]) ∧ ReadV w.heap.size c j (crewErr c.d j) v w' ∧ Below w.heap.size w w' := by
  have HAT := Lib.hid (fun (w0 : World) (hw : Grow w w0) => ((hA.more hn).below hw).more hw.size)
  have HC := Lib.hid (fun (w0 : World) (hw : Grow w w0) => validCrew_any c w0.heap.size w0 (HAT.out w0 hw) (Nat.le_refl _) hs)
  have HE : Hid (crewErr c.d j = if okCrew c.d = false then 30 else if okJob c.languages j = false then 31 else 0) := rfl
  have HK := Lib.hid (fun (h : okCrew c.d = true) => okCrew_ok h)
  have HR : Hid (∀ v w0 er, er = crewErr c.d j → (er ≠ 0 → v = .agg zeroT) → (er = 0 → TaskV w.heap.size c j v w0) → ReadV w.heap.size c j er v w0) := Lib.hid (fun v w0 er he h1 h2 => ⟨h1, fun h0 => by
    subst he
    have h3 := h2 h0
    rw [HE.out] at h0
    by_cases a : okCrew c.d = false
    · rw [if_pos a] at h0; cases h0
    · rw [if_neg a] at h0
      by_cases b : okJob c.languages j = false
      · rw [if_pos b] at h0; cases h0
      · exact ⟨by simpa using a, by simpa using b, h3⟩⟩)
  obtain ⟨er, her⟩ : ∃ z, crewErr c.d j = z := ⟨_, rfl⟩
  rw [her] at HE HR ⊢
  obtain ⟨oc, hoc⟩ : ∃ z, okCrew c.d = z := ⟨_, rfl⟩
  rw [hoc] at HC HE HK
  clear hA hn her hoc
  go_enter Try.func38, Try.ntmps38
  go_upto_region 1 with fail
  obtain ⟨W, hW, hg, hf, hs1, hr, hsz⟩ := three_blocks w 25 27 63 (cellsC c) (cellsJ j) zeroT
  rw [hW]
  clear hW
  have hcc := hf.cell
  have HF := Lib.hid hf
  have HS := Lib.hid hs1
  have HRB := Lib.hid hr
  have HG := Lib.hid hg
  clear hf hs1 hg hr
  go_wp2_with fail
  refine (HC.out W HG.out).mono ?_
  rintro e w1 ⟨rfl, hb1⟩
  have HG1 : Hid (Grow W w1) := hb1
  clear hb1 hcc
  cases oc with
  | false =>
    obtain rfl : er = 30 := HE.out
    have hrb := HG1.out.block HRB.out
    have hrc := hrb.cell
    have hrf := hrb.frozen
    have H5 := Lib.hid (stores13 hrb (.int .i64 0) (.slice none 0 0) (.slice none 0 0) (.int .i64 0) (.int .i64 0) (.int .i64 0) (.int .i64 0) (.int .i64 0) (.int .i64 0) (.int .i64 0) (.int .i64 0) (.bool false) (.slice none 0 0))
    have HB5 := Lib.hid ((HG.out.trans HG1.out).trans' (below13 (w := w1) (B := w.heap.size) (b := w.heap.size + 1 + 1) (by omega) (.int .i64 0) (.slice none 0 0) (.slice none 0 0) (.int .i64 0) (.int .i64 0) (.int .i64 0) (.int .i64 0) (.int .i64 0) (.int .i64 0) (.int .i64 0) (.int .i64 0) (.bool false) (.slice none 0 0)))
    clear hrb
    go_wp2
    exact bodyPost_ret (results_task Try.results38 _ _ _ _ _ _ _ _ _ _ _ _ _ _ _ _ _ H5.out rfl rfl) rfl ⟨_, rfl, HR.out _ _ _ rfl (fun _ => rfl) (fun h => by cases h), HB5.out⟩
  | true =>
    have hcc := (HG1.out.block HF.out).cell
    have hjc := (HG1.out.block HS.out).cell
    have HOK := Lib.hid (HK.out rfl)
    have HJ := Lib.hid (fun w0 => validJob_any c j w0 HOK.out.lang)
    have HJA := Lib.hid (fun (h : okJob c.languages j = true) => okJob_ok h)
    have HE1 : Hid (er = if okJob c.languages j = false then 31 else 0) := HE
    clear HE HK
    obtain ⟨oj, hoj⟩ : ∃ z, okJob c.languages j = z := ⟨_, rfl⟩
    rw [hoj] at HJ HE1 HJA
    clear hoj
    go_wp2_with fail
    refine (HJ.out _).mono ?_
    rintro e w2 ⟨rfl, hb2⟩
    have HG2 : Hid (Grow W w2) := Lib.hid (HG1.out.trans hb2)
    clear hb2 hcc hjc
    cases oj with
    | false =>
      obtain rfl : er = 31 := HE1.out
      have hrb := HG2.out.block HRB.out
      have hrc := hrb.cell
      have hrf := hrb.frozen
      have H5 := Lib.hid (stores13 hrb (.int .i64 0) (.slice none 0 0) (.slice none 0 0) (.int .i64 0) (.int .i64 0) (.int .i64 0) (.int .i64 0) (.int .i64 0) (.int .i64 0) (.int .i64 0) (.int .i64 0) (.bool false) (.slice none 0 0))
      have HB5 := Lib.hid ((HG.out.trans HG2.out).trans' (below13 (w := w2) (B := w.heap.size) (b := w.heap.size + 1 + 1) (by omega) (.int .i64 0) (.slice none 0 0) (.slice none 0 0) (.int .i64 0) (.int .i64 0) (.int .i64 0) (.int .i64 0) (.int .i64 0) (.int .i64 0) (.int .i64 0) (.int .i64 0) (.bool false) (.slice none 0 0)))
      clear hrb
      go_wp2
      exact bodyPost_ret (results_task Try.results38 _ _ _ _ _ _ _ _ _ _ _ _ _ _ _ _ _ H5.out rfl rfl) rfl ⟨_, rfl, HR.out _ _ _ rfl (fun _ => rfl) (fun h => by cases h), HB5.out⟩
    | true =>
      obtain rfl : er = 0 := HE1.out
      have HJO := Lib.hid (HJA.out rfl)
      obtain ⟨kN, hkN⟩ := Int.eq_ofNat_of_zero_le HJO.out.kind.1
      have hla := lawOf_at HOK.out HJO.out
      have hkl : j.kind.toNat < c.laws.length := lt_of_at hla
      obtain ⟨lb, lo, lw, hwa, hlb, hlc, HL⟩ := (HAT.out w2 (HG.out.trans HG2.out)).2.at_ hkl
      obtain rfl : lw = lawOf c.d j := by
        have h := HL.out
        have h2 : c.laws[j.kind.toNat]? = some (lawOf c.d j) := hla
        rw [h2] at h
        exact (Option.some.inj h).symm
      have HLC := Lib.hid (fun (w0 : World) (hw : Grow w2 w0) (i : Nat) (hi : i < 3) (u : Value) (hu : (cellsL (lawOf c.d j))[i]? = some u) => Grow.cell hw ((hlc i hi).trans hu))
      have HKN := Lib.hid hkN
      have hk0 : (0 : Int) ≤ (kN : Int) := by omega
      have hk1 : (kN : Int) < (c.laws.length : Int) := by omega
      rw [show j.kind.toNat = kN by rw [hkN]; rfl] at HLC
      have HWA := Lib.hid hwa
      have HBR := Lib.hid (fun (w0 : World) (hw : Grow w w0) => breaches_any c j w0.heap.size w0 (HAT.out w0 hw) (Nat.le_refl _) (by have h := HOK.out.count; rw [List.length_map] at h; exact h) (fun x hx => okPerson_ok (HOK.out.people x.d (List.mem_map.2 ⟨x, hx, rfl⟩))) HJO.out.ok)
      have HLE : Hid (w.heap.size ≤ w2.heap.size) := Lib.hid (HG.out.trans HG2.out).size
      have HCV : Hid (∀ sb, taskV c j (lawOf c.d j) (some ⟨sb, 0, none⟩) c.people.length = .agg (cellsT c j (lawOf c.d j) (some ⟨sb, 0, none⟩) c.people.length)) := Lib.hid fun _ => rfl
      have HTV : Hid (∀ sb w0, w.heap.size ≤ sb → BlockIs w0 sb 3 (natCells (c.people.map fun x => breakD j x.d)) → TaskV w.heap.size c j (taskV c j (lawOf c.d j) (some ⟨sb, 0, none⟩) c.people.length) w0) := Lib.hid fun sb w0 h1 h2 => ⟨sb, rfl, h1, h2⟩
      obtain ⟨law, hlaw⟩ : ∃ z, lawOf c.d j = z := ⟨_, rfl⟩
      rw [hlaw] at HLC HTV HCV
      clear hla hkl hwa hlb hlc hkN hlaw
      go_upto_region 5 with fail
      refine wp_region_lit 12 [[], [], [], [(2, 17)], [], [(4, 19)], [(3, 18), (5, 20)], [(6, 21)], [], [], [(8, 23), (9, 24)], [(0, 15), (1, 16), (7, 22), (10, 25)]] Grow (fun qi v w' => match qi with
          | 0 => v = crewV c
          | 1 => v = jobV j
          | 2 => v = .pointer (some ⟨w.heap.size, 2, none⟩)
          | 3 => v = .slice (some ⟨lb, lo, none⟩) c.laws.length c.wc
          | 4 => v = .pointer (some ⟨w.heap.size + 1, 4, none⟩)
          | 5 => v = .int .i64 (kN : Nat)
          | 6 => v = .pointer (some ⟨lb, lo + kN * 3, none⟩)
          | 7 => v = lawV law
          | 8 => v = crewV c
          | 9 => v = jobV j
          | 10 => SetsV w.heap.size c j v w'
          | 11 => TaskW w.heap.size c j law v w'
          | _ => False) (by kernel_rfl) (by kernel_rfl) (fun _ _ _ => Grow.trans) Grow.refl ?_ ?_ ?_
      · intro i v y y' h k
        match i, h with
        | 10, h => exact h.grow k
        | 11, h => exact h.grow k
        | 0, h | 1, h | 2, h | 3, h | 4, h | 5, h | 6, h | 7, h | 8, h | 9, h => exact h
      · simp only [StepsLit, List.take_succ_cons, List.take_zero]
        refine ⟨?_, ?_, ?_, ?_, ?_, ?_, ?_, ?_, ?_, ?_, ?_, ?_, trivial⟩
        · intro w5 hR
          have hGw : Grow w2 w5 := hR.of_drew
          have HGW := Lib.hid hGw
          have hcc0 := (HGW.out.block (HG2.out.block HF.out)).cell
          have hjc0 := (HGW.out.block (HG2.out.block HS.out)).cell
          have hc0 : w5.cell? ⟨w.heap.size, 0, none⟩ = some (.int .i64 c.languages) := hcc0 0
          have hc1 : w5.cell? ⟨w.heap.size, 1, none⟩ = some (.slice c.pa c.people.length c.pc) := hcc0 1
          have hc2 : w5.cell? ⟨w.heap.size, 2, none⟩ = some (.slice c.wa c.laws.length c.wc) := hcc0 2
          clear hR hGw
          simp only [depV]
          try go_simp
          all_goals first
            | (with_reducible exact Grow.refl _)
            | (with_reducible exact ⟨Grow.refl _, rfl⟩)
        · intro w5 hR
          have hGw : Grow w2 w5 := hR.of_drew
          have HGW := Lib.hid hGw
          have hcc0 := (HGW.out.block (HG2.out.block HF.out)).cell
          have hjc0 := (HGW.out.block (HG2.out.block HS.out)).cell
          have hc0 : w5.cell? ⟨w.heap.size, 0, none⟩ = some (.int .i64 c.languages) := hcc0 0
          have hc1 : w5.cell? ⟨w.heap.size, 1, none⟩ = some (.slice c.pa c.people.length c.pc) := hcc0 1
          have hc2 : w5.cell? ⟨w.heap.size, 2, none⟩ = some (.slice c.wa c.laws.length c.wc) := hcc0 2
          clear hR hGw
          simp only [depV]
          try go_simp
          all_goals first
            | (with_reducible exact Grow.refl _)
            | (with_reducible exact ⟨Grow.refl _, rfl⟩)
        · intro w5 hR
          have hGw : Grow w2 w5 := hR.of_drew
          have HGW := Lib.hid hGw
          have hcc0 := (HGW.out.block (HG2.out.block HF.out)).cell
          have hjc0 := (HGW.out.block (HG2.out.block HS.out)).cell
          have hc0 : w5.cell? ⟨w.heap.size, 0, none⟩ = some (.int .i64 c.languages) := hcc0 0
          have hc1 : w5.cell? ⟨w.heap.size, 1, none⟩ = some (.slice c.pa c.people.length c.pc) := hcc0 1
          have hc2 : w5.cell? ⟨w.heap.size, 2, none⟩ = some (.slice c.wa c.laws.length c.wc) := hcc0 2
          clear hR hGw
          simp only [depV]
          try go_simp
          all_goals first
            | (with_reducible exact Grow.refl _)
            | (with_reducible exact ⟨Grow.refl _, rfl⟩)
        · intro w5 hR
          have hGw : Grow w2 w5 := hR.of_drew
          have HGW := Lib.hid hGw
          have hcc0 := (HGW.out.block (HG2.out.block HF.out)).cell
          have hjc0 := (HGW.out.block (HG2.out.block HS.out)).cell
          have hc0 : w5.cell? ⟨w.heap.size, 0, none⟩ = some (.int .i64 c.languages) := hcc0 0
          have hc1 : w5.cell? ⟨w.heap.size, 1, none⟩ = some (.slice c.pa c.people.length c.pc) := hcc0 1
          have hc2 : w5.cell? ⟨w.heap.size, 2, none⟩ = some (.slice c.wa c.laws.length c.wc) := hcc0 2
          clear hR hGw
          simp only [depV]
          rintro _ rfl
          have hc2' : w5.cell? ⟨w.heap.size, 2, none⟩ = some (.slice (some ⟨lb, lo, none⟩) c.laws.length c.wc) := by rw [← HWA.out]; exact hcc0 2
          clear hc2 hcc0
          try go_simp
          all_goals first
            | (with_reducible exact Grow.refl _)
            | (with_reducible exact ⟨Grow.refl _, rfl⟩)
        · intro w5 hR
          have hGw : Grow w2 w5 := hR.of_drew
          have HGW := Lib.hid hGw
          have hcc0 := (HGW.out.block (HG2.out.block HF.out)).cell
          have hjc0 := (HGW.out.block (HG2.out.block HS.out)).cell
          have hc0 : w5.cell? ⟨w.heap.size, 0, none⟩ = some (.int .i64 c.languages) := hcc0 0
          have hc1 : w5.cell? ⟨w.heap.size, 1, none⟩ = some (.slice c.pa c.people.length c.pc) := hcc0 1
          have hc2 : w5.cell? ⟨w.heap.size, 2, none⟩ = some (.slice c.wa c.laws.length c.wc) := hcc0 2
          clear hR hGw
          simp only [depV]
          try go_simp
          all_goals first
            | (with_reducible exact Grow.refl _)
            | (with_reducible exact ⟨Grow.refl _, rfl⟩)
        · intro w5 hR
          have hGw : Grow w2 w5 := hR.of_drew
          have HGW := Lib.hid hGw
          have hcc0 := (HGW.out.block (HG2.out.block HF.out)).cell
          have hjc0 := (HGW.out.block (HG2.out.block HS.out)).cell
          have hc0 : w5.cell? ⟨w.heap.size, 0, none⟩ = some (.int .i64 c.languages) := hcc0 0
          have hc1 : w5.cell? ⟨w.heap.size, 1, none⟩ = some (.slice c.pa c.people.length c.pc) := hcc0 1
          have hc2 : w5.cell? ⟨w.heap.size, 2, none⟩ = some (.slice c.wa c.laws.length c.wc) := hcc0 2
          clear hR hGw
          simp only [depV]
          rintro _ rfl
          have hk4 : w5.cell? ⟨w.heap.size + 1, 4, none⟩ = some (.int .i64 (kN : Nat)) := by rw [← HKN.out]; exact hjc0 4
          clear hjc0
          try go_simp
          all_goals first
            | (with_reducible exact Grow.refl _)
            | (with_reducible exact ⟨Grow.refl _, rfl⟩)
        · intro w5 hR
          have hGw : Grow w2 w5 := hR.of_drew
          have HGW := Lib.hid hGw
          have hcc0 := (HGW.out.block (HG2.out.block HF.out)).cell
          have hjc0 := (HGW.out.block (HG2.out.block HS.out)).cell
          have hc0 : w5.cell? ⟨w.heap.size, 0, none⟩ = some (.int .i64 c.languages) := hcc0 0
          have hc1 : w5.cell? ⟨w.heap.size, 1, none⟩ = some (.slice c.pa c.people.length c.pc) := hcc0 1
          have hc2 : w5.cell? ⟨w.heap.size, 2, none⟩ = some (.slice c.wa c.laws.length c.wc) := hcc0 2
          clear hR hGw
          simp only [depV]
          rintro _ rfl
          rintro _ rfl
          try go_simp
          all_goals first
            | (with_reducible exact Grow.refl _)
            | (with_reducible exact ⟨Grow.refl _, rfl⟩)
        · intro w5 hR
          have hGw : Grow w2 w5 := hR.of_drew
          have HGW := Lib.hid hGw
          have hcc0 := (HGW.out.block (HG2.out.block HF.out)).cell
          have hjc0 := (HGW.out.block (HG2.out.block HS.out)).cell
          have hc0 : w5.cell? ⟨w.heap.size, 0, none⟩ = some (.int .i64 c.languages) := hcc0 0
          have hc1 : w5.cell? ⟨w.heap.size, 1, none⟩ = some (.slice c.pa c.people.length c.pc) := hcc0 1
          have hc2 : w5.cell? ⟨w.heap.size, 2, none⟩ = some (.slice c.wa c.laws.length c.wc) := hcc0 2
          clear hR hGw
          simp only [depV]
          rintro _ rfl
          have hl0 := HLC.out w5 HGW.out 0 (by omega) _ rfl
          have hl1 := HLC.out w5 HGW.out 1 (by omega) _ rfl
          have hl2 := HLC.out w5 HGW.out 2 (by omega) _ rfl
          rw [Nat.add_zero] at hl0
          try go_simp
          all_goals first
            | (with_reducible exact Grow.refl _)
            | (with_reducible exact ⟨Grow.refl _, rfl⟩)
        · intro w5 hR
          have hGw : Grow w2 w5 := hR.of_drew
          have HGW := Lib.hid hGw
          have hcc0 := (HGW.out.block (HG2.out.block HF.out)).cell
          have hjc0 := (HGW.out.block (HG2.out.block HS.out)).cell
          have hc0 : w5.cell? ⟨w.heap.size, 0, none⟩ = some (.int .i64 c.languages) := hcc0 0
          have hc1 : w5.cell? ⟨w.heap.size, 1, none⟩ = some (.slice c.pa c.people.length c.pc) := hcc0 1
          have hc2 : w5.cell? ⟨w.heap.size, 2, none⟩ = some (.slice c.wa c.laws.length c.wc) := hcc0 2
          clear hR hGw
          simp only [depV]
          try go_simp
          all_goals first
            | (with_reducible exact Grow.refl _)
            | (with_reducible exact ⟨Grow.refl _, rfl⟩)
        · intro w5 hR
          have hGw : Grow w2 w5 := hR.of_drew
          have HGW := Lib.hid hGw
          have hcc0 := (HGW.out.block (HG2.out.block HF.out)).cell
          have hjc0 := (HGW.out.block (HG2.out.block HS.out)).cell
          have hc0 : w5.cell? ⟨w.heap.size, 0, none⟩ = some (.int .i64 c.languages) := hcc0 0
          have hc1 : w5.cell? ⟨w.heap.size, 1, none⟩ = some (.slice c.pa c.people.length c.pc) := hcc0 1
          have hc2 : w5.cell? ⟨w.heap.size, 2, none⟩ = some (.slice c.wa c.laws.length c.wc) := hcc0 2
          clear hR hGw
          simp only [depV]
          try go_simp
          all_goals first
            | (with_reducible exact Grow.refl _)
            | (with_reducible exact ⟨Grow.refl _, rfl⟩)
        · intro w5 hR
          have hGw : Grow w2 w5 := hR.of_drew
          have HGW := Lib.hid hGw
          have hcc0 := (HGW.out.block (HG2.out.block HF.out)).cell
          have hjc0 := (HGW.out.block (HG2.out.block HS.out)).cell
          have hc0 : w5.cell? ⟨w.heap.size, 0, none⟩ = some (.int .i64 c.languages) := hcc0 0
          have hc1 : w5.cell? ⟨w.heap.size, 1, none⟩ = some (.slice c.pa c.people.length c.pc) := hcc0 1
          have hc2 : w5.cell? ⟨w.heap.size, 2, none⟩ = some (.slice c.wa c.laws.length c.wc) := hcc0 2
          clear hR hGw
          simp only [depV]
          rintro _ rfl
          rintro _ rfl
          try go_simp
          refine (HBR.out w5 (HG.out.trans (HG2.out.trans HGW.out))).mono ?_
          rintro e w6 ⟨sb, rfl, hsb, hbk, hb6⟩
          exact ⟨hb6, sb, rfl, by have := HLE.out; have := HGW.out.size; omega, hbk⟩
        · intro w5 hR
          have hGw : Grow w2 w5 := hR.of_drew
          have HGW := Lib.hid hGw
          have hcc0 := (HGW.out.block (HG2.out.block HF.out)).cell
          have hjc0 := (HGW.out.block (HG2.out.block HS.out)).cell
          have hc0 : w5.cell? ⟨w.heap.size, 0, none⟩ = some (.int .i64 c.languages) := hcc0 0
          have hc1 : w5.cell? ⟨w.heap.size, 1, none⟩ = some (.slice c.pa c.people.length c.pc) := hcc0 1
          have hc2 : w5.cell? ⟨w.heap.size, 2, none⟩ = some (.slice c.wa c.laws.length c.wc) := hcc0 2
          clear hR hGw
          simp only [depV]
          rintro _ rfl
          rintro _ rfl
          rintro _ rfl
          intro v10 hv10
          obtain ⟨sb, rfl, hsb, hbk⟩ := hv10
          try go_simp
          exact ⟨Grow.refl _, sb, rfl, hsb, hbk⟩
      · intro w5 hR
        have HG5 : Hid (Grow w2 w5) := Lib.hid hR.of_drew
        clear hR
        simp only [finVC, List.take_succ_cons, List.take_zero, List.drop_succ_cons, List.drop_zero]
        rintro _ rfl
        rintro _ rfl
        rintro _ rfl
        rintro _ rfl
        rintro _ rfl
        rintro _ rfl
        rintro _ rfl
        rintro _ rfl
        rintro _ rfl
        rintro _ rfl
        intro v10 hv10
        intro v11 hv11
        simp only [Act.put, List.setIfInBounds_toArray, List.set_cons_succ, List.set_cons_zero]
        obtain ⟨sb, rfl, hsb, hbk⟩ := hv11
        have hrb := (HG2.out.trans HG5.out).block HRB.out
        have hrc := hrb.cell
        have hrf := hrb.frozen
        have H5 := Lib.hid (stores13 hrb (.int .i64 c.languages) (.slice c.pa c.people.length c.pc) (.slice c.wa c.laws.length c.wc) (.int .i64 j.fr) (.int .i64 j.dest) (.int .i64 j.client) (.int .i64 j.field) (.int .i64 j.kind) (.int .i64 j.size) (.int .i64 law.level) (.int .i64 law.size) (.bool law.deaf) (.slice (some ⟨sb, 0, none⟩) c.people.length c.people.length))
        have HB5 := Lib.hid ((HG.out.trans (HG2.out.trans HG5.out)).trans' (below13 (w := w5) (B := w.heap.size) (b := w.heap.size + 1 + 1) (by omega) (.int .i64 c.languages) (.slice c.pa c.people.length c.pc) (.slice c.wa c.laws.length c.wc) (.int .i64 j.fr) (.int .i64 j.dest) (.int .i64 j.client) (.int .i64 j.field) (.int .i64 j.kind) (.int .i64 j.size) (.int .i64 law.level) (.int .i64 law.size) (.bool law.deaf) (.slice (some ⟨sb, 0, none⟩) c.people.length c.people.length)))
        have hne : sb ≠ w.heap.size + 1 + 1 := fun e => by
          have h1 : w5.heap[sb]? = _ := hbk
          have h2 : w5.heap[w.heap.size + 1 + 1]? = _ := hrb
          rw [e, h2] at h1
          simp at h1
        have HSB := Lib.hid (far13 hbk hne (.int .i64 c.languages) (.slice c.pa c.people.length c.pc) (.slice c.wa c.laws.length c.wc) (.int .i64 j.fr) (.int .i64 j.dest) (.int .i64 j.client) (.int .i64 j.field) (.int .i64 j.kind) (.int .i64 j.size) (.int .i64 law.level) (.int .i64 law.size) (.bool law.deaf) (.slice (some ⟨sb, 0, none⟩) c.people.length c.people.length))
        have HSL := Lib.hid hsb
        clear hrb hv10 hbk hsb hne
        go_wp2
        exact bodyPost_ret (results_task Try.results38 _ _ _ _ _ _ _ _ _ _ _ _ _ _ _ _ _ H5.out rfl rfl) rfl ⟨_, rfl, HR.out _ _ _ rfl (fun h => absurd rfl h) (fun _ => HTV.out sb _ HSL.out HSB.out), HB5.out⟩

def Is13 (v : Value) : Prop := ∃ (i0 : Int) (a1 : Option Addr) (n1 k1 : Nat) (a2 : Option Addr) (n2 k2 : Nat) (i3 i4 i5 i6 i7 i8 i9 i10 : Int) (b : Bool) (a3 : Option Addr) (n3 k3 : Nat), v = .agg #[.int .i64 i0, .slice a1 n1 k1, .slice a2 n2 k2, .int .i64 i3, .int .i64 i4, .int .i64 i5, .int .i64 i6, .int .i64 i7, .int .i64 i8, .int .i64 i9, .int .i64 i10, .bool b, .slice a3 n3 k3]
/-- the program's Check -/
theorem check_any (c : CrewR) (j : JobD) (n : Nat) (w : World) (hA : CrewAt w n c) (hn : n ≤ w.heap.size) (hs : Short c) :
    Calls Try.prog 13 #[crewV c, jobV j] w fun e w' => e = .returned (.int .i64 (crewErr c.d j)) ∧ Below w.heap.size w w' := by
  have HR := Lib.hid (fun (w0 : World) (hw : Grow w w0) => read_any c j w0.heap.size w0 (((hA.more hn).below hw).more hw.size) (Nat.le_refl _) hs)
  have HZ : Hid (∀ v lo er w0, ReadV lo c j er v w0 → Is13 v) := Lib.hid fun v lo er w0 h => by
    by_cases h0 : er = 0
    · obtain ⟨sb, e, _⟩ := (h.2 h0).2.2
      exact ⟨_, _, _, _, _, _, _, _, _, _, _, _, _, _, _, _, _, _, _, e⟩
    · exact ⟨_, _, _, _, _, _, _, _, _, _, _, _, _, _, _, _, _, _, _, h.1 h0⟩
  generalize crewErr c.d j = er at HR ⊢
  clear hA hn
  go_enter Try.func13, Try.ntmps13
  go_upto_region 1 with fail
  obtain ⟨W, hW, hg, hf, hs1, hsz⟩ := two_blocks w 25 27 (cellsC c) (cellsJ j)
  rw [hW]
  clear hW
  have hcc := hf.cell
  have hjc := hs1.cell
  have HG := Lib.hid hg
  clear hf hs1 hg
  go_wp2_with fail
  refine (HR.out W HG.out).mono ?_
  rintro e w1 ⟨v, rfl, hv, hb1⟩
  have HG1 : Hid (Grow W w1) := hb1
  obtain ⟨i0, a1, n1, k1, a2, n2, k2, i3, i4, i5, i6, i7, i8, i9, i10, b, a3, n3, k3, rfl⟩ := HZ.out _ _ _ _ hv
  clear hb1 hcc hjc hv
  go_wp2
  go_ret
  exact ⟨rfl, HG.out.trans (HG1.out.trans (Grow.alloc _ _))⟩

end Go.Proofs.Yticeekkfdkfcgaa
