/- Count: math/bits.OnesCount at small sets; sets that agree. -/
import Derived.Test.YtinlojealfbbfaaHold
namespace Go.Proofs.Ytinlojealfbbfaa
open Go.RowKit

/-- how many of the first ten numbers a set has -/
def popD (s : Nat) : Nat := ((List.range 10).map fun i => s / 2 ^ i % 2).sum
def ones1 (s : Int) : Int := IntKind.u64.wrap (bits .and .u64 (s / 2) 6148914691236517205 + bits .and .u64 s 6148914691236517205)
def ones2 (x : Int) : Int := IntKind.u64.wrap (bits .and .u64 (x / 4) 3689348814741910323 + bits .and .u64 x 3689348814741910323)
def ones3 (x : Int) : Int := bits .and .u64 (IntKind.u64.wrap (x / 16 + x)) 1085102592571150095
def ones4 (x : Int) : Int := IntKind.u64.wrap (x + x / 256)
def ones5 (x : Int) : Int := IntKind.u64.wrap (x + x / 65536)
def ones6 (x : Int) : Int := IntKind.u64.wrap (x + x / 4294967296)
def onesE (s : Int) : Int := bits .and .i64 (wrap64 (ones6 (ones5 (ones4 (ones3 (ones2 (ones1 s))))))) 127
theorem ones_key : ∀ s : Nat, s < 1024 → onesE s = popD s := by
  have h : ∀ s ∈ List.range 1024, onesE (s : Nat) = popD s := by decide +kernel
  exact fun s hs => h s (List.mem_range.2 hs)

set_option maxRecDepth 100000 in
set_option maxHeartbeats 4000000 in
theorem ones64_any (s : Nat) (w : World) (hs : s < 1024) :
    Calls Try.prog 94 #[.int .u64 s] w fun e w' => e = .returned (.int .i64 (popD s)) ∧ w = w' := by
  go_enter Try.func94, Try.ntmps94
  go_wp2
  go_ret
  exact ⟨congrArg (fun q => Ending.returned (Value.int .i64 q)) (show onesE s = popD s from ones_key s hs), rfl⟩

set_option maxHeartbeats 400000 in
theorem ones_any (s : Nat) (w : World) (hs : s < 1024) :
    Calls Try.prog 82 #[.int .u64 s] w fun e w' => e = .returned (.int .i64 (popD s)) ∧ w = w' := by
  have HO := Lib.hid (fun w0 => ones64_any s w0 hs)
  go_enter Try.func82, Try.ntmps82
  go_wp2_with fail
  refine (HO.out _).mono ?_
  rintro e w2 ⟨rfl, rfl⟩
  go_wp2
  go_ret
  exact ⟨rfl, rfl⟩
set_option maxHeartbeats 400000 in
theorem count_any (s : Nat) (w : World) (hs : s < 1024) :
    Calls Try.prog 64 #[.int .i64 s] w fun e w' => e = .returned (.int .i64 (popD s)) ∧ w = w' := by
  have HO := Lib.hid (fun w0 => ones_any s w0 hs)
  go_enter Try.func64, Try.ntmps64
  go_wp2_with fail
  refine (HO.out _).mono ?_
  rintro e w2 ⟨rfl, rfl⟩
  go_wp2
  go_ret
  exact ⟨rfl, rfl⟩

/-- a set has a sign of a gloss -/
def hitD (s : Nat) (x : GlossD) : Bool := decide (x.signs.toNat &&& s ≠ 0)
def agreesD (s : Nat) (l : List GlossD) : Bool := l.all (hitD s)
def SignsOK (x : GlossD) : Prop := 0 ≤ x.signs ∧ x.signs < 1048576
theorem okGloss_signs {f : FilmsD} (hf : okFilms f = true) {g : GlossD} (h : okGloss f g = true) : SignsOK g := by
  obtain ⟨_, _, _, _, _, _, h6, h7⟩ := okGloss_parts h
  have h10 := (okFilms_parts hf).2.1
  have h2 : (2 : Nat) ^ f.signs.toNat ≤ 2 ^ 10 := Nat.pow_le_pow_right (by omega) (by omega)
  have e : ((2 : Int) ^ f.signs.toNat) = ((2 ^ f.signs.toNat : Nat) : Int) := (Int.natCast_pow 2 _).symm
  rw [e] at h7
  exact ⟨h6, by omega⟩
theorem bits_hit {x : GlossD} (h : SignsOK x) {s : Nat} (hs : s < 1048576) : bits .and .i64 x.signs (s : Int) = ((x.signs.toNat &&& s : Nat) : Int) := by
  obtain ⟨h0, h1⟩ := h
  obtain ⟨n, hn⟩ := Int.eq_ofNat_of_zero_le h0
  rw [hn] at h1 ⊢
  rw [Int.toNat_natCast]
  exact and_i64 n s (by omega) (by omega)

set_option maxRecDepth 100000 in
set_option maxHeartbeats 2000000 in
theorem agrees1_any (s : Nat) (x : GlossD) (b : Nat) (w : World) (hb : w.cell? ⟨b, 0, none⟩ = some (.int .i64 s)) (hx : SignsOK x) (hs : s < 1048576) :
    Calls Try.prog 83 #[glossV x, .pointer (some ⟨b, 0, none⟩)] w fun e w' => e = .returned (.bool (!hitD s x)) ∧ Below w.heap.size w w' := by
  have HB := Lib.hid (bits_hit hx hs)
  have HO : Hid (hitD s x = decide (x.signs.toNat &&& s ≠ 0)) := rfl
  generalize hitD s x = r at HO ⊢
  generalize x.signs.toNat &&& s = m at HB HO
  clear hx hs
  go_enter Try.func83, Try.ntmps83
  go_upto_region 1 with fail
  obtain ⟨W, hW, hg, hf, hsz⟩ := one_block w 55 (cellsG x)
  rw [hW]
  clear hW
  have hyc := hf.cell
  have hsc := Grow.cell hg hb
  have HG := Lib.hid hg
  have hbits := HB.out
  clear hf hg hb
  by_cases h1 : m = 0
  · have HR : Hid (r = false) := Lib.hid (by rw [HO.out]; simp [h1])
    subst h1
    go_wp2
    go_ret
    exact ⟨ret_bool (by rw [HR.out]; rfl), HG.out⟩
  · have d1 : decide ((m : Int) = 0) = false := decide_eq_false (by omega)
    have d2 : decide (m = 0) = false := decide_eq_false h1
    have d3 : ((m : Int) == 0) = false := by simpa using h1
    have HR : Hid (r = true) := Lib.hid (by rw [HO.out]; simp [h1])
    clear h1
    go_wp2
    go_ret
    exact ⟨ret_bool (by rw [HR.out]; rfl), HG.out⟩

set_option maxRecDepth 100000 in
set_option maxHeartbeats 2000000 in
theorem agrees_any (s : Nat) (l : List GlossD) (A : Option Addr) (cap n : Nat) (w : World) (hA : GlossAt w n A l) (hn : n ≤ w.heap.size) (hl : l.length ≤ 1000) (hx : ∀ x ∈ l, SignsOK x) (hs : s < 1048576) :
    Calls Try.prog 65 #[.int .i64 s, .slice A l.length cap] w fun e w' => e = .returned (.bool (agreesD s l)) ∧ Below w.heap.size w w' := by
  have HC := Lib.hid (fun (w0 : World) (hw : Grow w w0) (b : Nat) (hb : BlockIs w0 b 3 #[.int .i64 s]) => containsFuncGloss_any A cap w0.heap.size l w0 (((hA.more hn).below hw).more hw.size) (by omega) (Nat.le_refl _) 83 (.pointer (some ⟨b, 0, none⟩)) (fun x => !hitD s x) (fun _ _ => by kernel_rfl) (fun x w1 hxl hg => agrees1_any s x b w1 ((hg.block hb).cell 0) (hx x hxl) hs))
  have hany : (l.any fun x => !hitD s x) = !(agreesD s l) := by unfold agreesD; rw [List.all_eq_not_any_not, Bool.not_not]
  rw [hany] at HC
  generalize agreesD s l = r at HC ⊢
  clear hA hn hl hx hs hany
  go_enter Try.func65, Try.ntmps65
  go_upto_region 1 with fail
  obtain ⟨W, hW, hg, hf, hsz⟩ := one_block w 3 #[.int .i64 s]
  rw [hW]
  clear hW
  have HG := Lib.hid hg
  have HF := Lib.hid hf
  clear hf hg
  go_wp2_with fail
  refine (HC.out _ HG.out _ HF.out).mono ?_
  rintro e w2 ⟨rfl, hb2⟩
  have HG2 : Hid (Grow W w2) := hb2
  clear hb2
  go_wp2
  go_ret
  exact ⟨ret_bool (by simp), HG.out.trans HG2.out⟩

end Go.Proofs.Ytinlojealfbbfaa
