/- Ones: bits.OnesCount of small sets. -/
import Derived.Test.YthehkgpnnndboaaDoorForms
import Derived.Test.YthehkgpnnndboaaDoorMaths
import Derived.BigQuiet
import Derived.Deep.QuietTactic
namespace Go.Proofs.YthehkgpnnndboaaDoor
open Go.RowKit

def ones1 (s : Int) : Int := IntKind.u64.wrap (bits .and .u64 (s / 2) 6148914691236517205 + bits .and .u64 s 6148914691236517205)
def ones2 (x : Int) : Int := IntKind.u64.wrap (bits .and .u64 (x / 4) 3689348814741910323 + bits .and .u64 x 3689348814741910323)
def ones3 (x : Int) : Int := bits .and .u64 (IntKind.u64.wrap (x / 16 + x)) 1085102592571150095
def ones4 (x : Int) : Int := IntKind.u64.wrap (x + x / 256)
def ones5 (x : Int) : Int := IntKind.u64.wrap (x + x / 65536)
def ones6 (x : Int) : Int := IntKind.u64.wrap (x + x / 4294967296)
def onesE (s : Int) : Int := bits .and .i64 (wrap64 (ones6 (ones5 (ones4 (ones3 (ones2 (ones1 s))))))) 127
theorem ones_key : ∀ s : Nat, s < 256 → onesE s = popD s := by
  have h : ∀ s ∈ List.range 256, onesE (s : Nat) = popD s := by decide +kernel
  exact fun s hs => h s (List.mem_range.2 hs)

set_option maxRecDepth 100000 in
set_option maxHeartbeats 4000000 in
theorem ones64_any (s : Nat) (w : World) (hs : s < 256) :
    Calls Tryd.prog 90 #[.int .u64 s] w fun e w' => e = .returned (.int .i64 (popD s)) ∧ w = w' := by
  go_enter Tryd.func90, Tryd.ntmps90
  go_wp2
  go_ret
  exact ⟨congrArg (fun q => Ending.returned (Value.int .i64 q)) (show onesE s = popD s from ones_key s hs), rfl⟩
set_option maxHeartbeats 400000 in
theorem ones_any (s : Nat) (w : World) (hs : s < 256) :
    Calls Tryd.prog 69 #[.int .u64 s] w fun e w' => e = .returned (.int .i64 (popD s)) ∧ w = w' := by
  have HO := Lib.hid (fun w0 => ones64_any s w0 hs)
  go_enter Tryd.func69, Tryd.ntmps69
  go_wp2_with fail
  refine (HO.out _).mono ?_
  rintro e w2 ⟨rfl, rfl⟩
  go_wp2
  go_ret
  exact ⟨rfl, rfl⟩

end Go.Proofs.YthehkgpnnndboaaDoor
