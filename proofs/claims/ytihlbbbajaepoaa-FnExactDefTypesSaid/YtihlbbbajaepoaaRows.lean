/-
  NARROWER THAN 'FOR EVERY INPUT', by the rows' own cells (each row's printed sentence says how): FnExactPlacesOf: loops · FnExactRedexPlaces: loops · FnExactDefsValid: loops · FnExactDefTypes: loops.
  DERIVED. THE GIVEN ROWS OF THIS SEAT. 5 by the template 'for every input the law returns true; each argument reads behind the call as it read before'; 0 by the template 'total and deterministic' (their statements: YtihlbbbajaepoaaTotals.lean).
  GIVEN WITH THE SEED: the statements are not yours to turn. If you find one false, say at which input.
  Laid BY PROGRAM, IN A SANDBOX (cutbox-rows.mjs): the forced cells as the released guide's own fill.sh prints them over the translation 7917d0e113a1e2e8… (all of the seat's roots in one cut). By AI agents, Wed Nov 11 2026. No macro, syntax, notation, axiom, sorry.
-/
import Derived.Test.YtihlbbbajaepoaaChecked
import GoSem.Claim
import GoSem.ClaimJoined
import GoSem.ClaimMapViews
import Derived.JoinedTies
import Derived.KernelRfl
namespace Go.Proofs.Ytihlbbbajaepoaa
/- THE CELL 'sum', in the pinned program and in every row, IS THE sha256 OF THE DUMP (.gsa) THAT YtihlbbbajaepoaaProg.lean LOADS. Nothing in Lean hashes anything: it is a label: what it is worth is what the hold of that sum in a sandbox is worth. -/
noncomputable def Try.pinned : Pinned := { name := "ytihlbbbajaepoaa", sum := "7917d0e113a1e2e838aa277c4b1a69fda6c711188c959099b392bcbc29341fae", checked := Try.checked }
namespace Rows
def none {H : Type} : Left H := { results := [], args := [] }

/-- 'laws.FnExactPlacesOf': WHATEVER THE INPUT: true; the input reads as it did. -/
def fnExactPlacesOfSpec : ChangeSpec := { name := "fnExactPlacesOf", fn := fun _ => fun
  | [d] => { results := [.lit (.bool true)], args := [d] }
  | _ => none }
def fnExactPlacesOfRow : OpenClaim := { program := "ytihlbbbajaepoaa", sum := "7917d0e113a1e2e838aa277c4b1a69fda6c711188c959099b392bcbc29341fae", func := "loop.example/depkernel/laws.FnExactPlacesOf", spec := "fnExactPlacesOf", unfollowed := true, recurses := true, loops := true, apart := false }
def FnExactPlacesOfSaid : Prop := fnExactPlacesOfRow.holds Try.pinned (OpenSpec.ofChange fnExactPlacesOfSpec)

/-- ITS FALSE NEIGHBOUR: 'it returns false'. Refute it at one input. -/
def fnExactPlacesOfWrong : ChangeSpec := { name := "fnExactPlacesOf", fn := fun _ => fun
  | [d] => { results := [.lit (.bool false)], args := [d] }
  | _ => none }
def FnExactPlacesOfWrongFalsely : Prop := fnExactPlacesOfRow.holds Try.pinned (OpenSpec.ofChange fnExactPlacesOfWrong)

/-- 'laws.FnExactRedexPlaces': WHATEVER THE INPUT: true; the input reads as it did. -/
def fnExactRedexPlacesSpec : ChangeSpec := { name := "fnExactRedexPlaces", fn := fun _ => fun
  | [d] => { results := [.lit (.bool true)], args := [d] }
  | _ => none }
def fnExactRedexPlacesRow : OpenClaim := { program := "ytihlbbbajaepoaa", sum := "7917d0e113a1e2e838aa277c4b1a69fda6c711188c959099b392bcbc29341fae", func := "loop.example/depkernel/laws.FnExactRedexPlaces", spec := "fnExactRedexPlaces", unfollowed := true, recurses := true, loops := true, apart := false }
def FnExactRedexPlacesSaid : Prop := fnExactRedexPlacesRow.holds Try.pinned (OpenSpec.ofChange fnExactRedexPlacesSpec)

/-- ITS FALSE NEIGHBOUR: 'it returns false'. Refute it at one input. -/
def fnExactRedexPlacesWrong : ChangeSpec := { name := "fnExactRedexPlaces", fn := fun _ => fun
  | [d] => { results := [.lit (.bool false)], args := [d] }
  | _ => none }
def FnExactRedexPlacesWrongFalsely : Prop := fnExactRedexPlacesRow.holds Try.pinned (OpenSpec.ofChange fnExactRedexPlacesWrong)

/-- 'laws.FnExactDefsValid': WHATEVER THE INPUT: true; the input reads as it did. -/
def fnExactDefsValidSpec : ChangeSpec := { name := "fnExactDefsValid", fn := fun _ => fun
  | [d] => { results := [.lit (.bool true)], args := [d] }
  | _ => none }
def fnExactDefsValidRow : OpenClaim := { program := "ytihlbbbajaepoaa", sum := "7917d0e113a1e2e838aa277c4b1a69fda6c711188c959099b392bcbc29341fae", func := "loop.example/depkernel/laws.FnExactDefsValid", spec := "fnExactDefsValid", unfollowed := true, recurses := true, loops := true, apart := false }
def FnExactDefsValidSaid : Prop := fnExactDefsValidRow.holds Try.pinned (OpenSpec.ofChange fnExactDefsValidSpec)

/-- ITS FALSE NEIGHBOUR: 'it returns false'. Refute it at one input. -/
def fnExactDefsValidWrong : ChangeSpec := { name := "fnExactDefsValid", fn := fun _ => fun
  | [d] => { results := [.lit (.bool false)], args := [d] }
  | _ => none }
def FnExactDefsValidWrongFalsely : Prop := fnExactDefsValidRow.holds Try.pinned (OpenSpec.ofChange fnExactDefsValidWrong)

/-- 'laws.FnExactDefTypes': WHATEVER THE INPUT: true; the input reads as it did. -/
def fnExactDefTypesSpec : ChangeSpec := { name := "fnExactDefTypes", fn := fun _ => fun
  | [d] => { results := [.lit (.bool true)], args := [d] }
  | _ => none }
def fnExactDefTypesRow : OpenClaim := { program := "ytihlbbbajaepoaa", sum := "7917d0e113a1e2e838aa277c4b1a69fda6c711188c959099b392bcbc29341fae", func := "loop.example/depkernel/laws.FnExactDefTypes", spec := "fnExactDefTypes", unfollowed := true, recurses := true, loops := true, apart := false }
def FnExactDefTypesSaid : Prop := fnExactDefTypesRow.holds Try.pinned (OpenSpec.ofChange fnExactDefTypesSpec)

/-- ITS FALSE NEIGHBOUR: 'it returns false'. Refute it at one input. -/
def fnExactDefTypesWrong : ChangeSpec := { name := "fnExactDefTypes", fn := fun _ => fun
  | [d] => { results := [.lit (.bool false)], args := [d] }
  | _ => none }
def FnExactDefTypesWrongFalsely : Prop := fnExactDefTypesRow.holds Try.pinned (OpenSpec.ofChange fnExactDefTypesWrong)

/-- 'laws.FnPlacesOf': WHATEVER THE INPUT: true; the input reads as it did. -/
def fnPlacesOfSpec : ChangeSpec := { name := "fnPlacesOf", fn := fun _ => fun
  | [d] => { results := [.lit (.bool true)], args := [d] }
  | _ => none }
def fnPlacesOfRow : OpenClaim := { program := "ytihlbbbajaepoaa", sum := "7917d0e113a1e2e838aa277c4b1a69fda6c711188c959099b392bcbc29341fae", func := "loop.example/depkernel/laws.FnPlacesOf", spec := "fnPlacesOf", unfollowed := true, recurses := true, apart := false }
def FnPlacesOfSaid : Prop := fnPlacesOfRow.holds Try.pinned (OpenSpec.ofChange fnPlacesOfSpec)

/-- ITS FALSE NEIGHBOUR: 'it returns false'. Refute it at one input. -/
def fnPlacesOfWrong : ChangeSpec := { name := "fnPlacesOf", fn := fun _ => fun
  | [d] => { results := [.lit (.bool false)], args := [d] }
  | _ => none }
def FnPlacesOfWrongFalsely : Prop := fnPlacesOfRow.holds Try.pinned (OpenSpec.ofChange fnPlacesOfWrong)

/- THE SECOND FORM. 'bulk': how many values and letters a reading holds, each counted each time it is reached (what is shared counts as often as it is met; a slice's spare places count too). A statement '..UptoSaid' is the law's where the arguments, and the package variables that the reading takes, are together of bulk at most 1048576: NARROWER than '..Said'. Prove '..Said' where nothing that the law and all that it calls make is longer than what came in: it says more and counts as full. Else prove '..UptoSaid'. A law counts once. -/
mutual
def uptoBulk {H : Type} : DataW H → Nat
  | .lit (.string bytes) => bytes.length + 1
  | .lit _ => 1
  | .nil => 1
  | .ptr d => uptoBulk d + 1
  | .slice elems spare => uptoBulkAll elems + uptoBulkAll spare + 1
  | .agg parts => uptoBulkAll parts + 1
  | .iface _ d => uptoBulk d + 1
  | .map entries => uptoBulkEntries entries + 1
  | .held _ => 1
def uptoBulkAll {H : Type} : List (DataW H) → Nat
  | [] => 0
  | d :: r => uptoBulk d + uptoBulkAll r
def uptoBulkEntries {H : Type} : List (Lit × DataW H) → Nat
  | [] => 0
  | x :: r => uptoBulkEntry x + uptoBulkEntries r
def uptoBulkEntry {H : Type} : Lit × DataW H → Nat
  | (.string bytes, d) => bytes.length + uptoBulk d + 1
  | (_, d) => uptoBulk d + 1
 end
def uptoSmall : (H : Type) → List (DataW H) → Bool := fun _ ds => decide (uptoBulkAll ds ≤ 1048576)
def OpenSpec.upto (s : _root_.Go.ChangeSpec) : _root_.Go.OpenSpec := { _root_.Go.OpenSpec.ofChange s with cond := some uptoSmall }

/-- 'laws.FnExactPlacesOf', WHERE WHAT IT READS IS OF BULK AT MOST 1048576: true; the input reads as it did. -/
def fnExactPlacesOfUptoRow : OpenClaim := { program := "ytihlbbbajaepoaa", sum := "7917d0e113a1e2e838aa277c4b1a69fda6c711188c959099b392bcbc29341fae", func := "loop.example/depkernel/laws.FnExactPlacesOf", spec := "fnExactPlacesOf", unfollowed := true, recurses := true, loops := true, apart := false, narrowed := true }
def FnExactPlacesOfUptoSaid : Prop := fnExactPlacesOfUptoRow.holds Try.pinned (OpenSpec.upto fnExactPlacesOfSpec)

/-- 'laws.FnExactRedexPlaces', WHERE WHAT IT READS IS OF BULK AT MOST 1048576: true; the input reads as it did. -/
def fnExactRedexPlacesUptoRow : OpenClaim := { program := "ytihlbbbajaepoaa", sum := "7917d0e113a1e2e838aa277c4b1a69fda6c711188c959099b392bcbc29341fae", func := "loop.example/depkernel/laws.FnExactRedexPlaces", spec := "fnExactRedexPlaces", unfollowed := true, recurses := true, loops := true, apart := false, narrowed := true }
def FnExactRedexPlacesUptoSaid : Prop := fnExactRedexPlacesUptoRow.holds Try.pinned (OpenSpec.upto fnExactRedexPlacesSpec)

/-- 'laws.FnExactDefsValid', WHERE WHAT IT READS IS OF BULK AT MOST 1048576: true; the input reads as it did. -/
def fnExactDefsValidUptoRow : OpenClaim := { program := "ytihlbbbajaepoaa", sum := "7917d0e113a1e2e838aa277c4b1a69fda6c711188c959099b392bcbc29341fae", func := "loop.example/depkernel/laws.FnExactDefsValid", spec := "fnExactDefsValid", unfollowed := true, recurses := true, loops := true, apart := false, narrowed := true }
def FnExactDefsValidUptoSaid : Prop := fnExactDefsValidUptoRow.holds Try.pinned (OpenSpec.upto fnExactDefsValidSpec)

/-- 'laws.FnExactDefTypes', WHERE WHAT IT READS IS OF BULK AT MOST 1048576: true; the input reads as it did. -/
def fnExactDefTypesUptoRow : OpenClaim := { program := "ytihlbbbajaepoaa", sum := "7917d0e113a1e2e838aa277c4b1a69fda6c711188c959099b392bcbc29341fae", func := "loop.example/depkernel/laws.FnExactDefTypes", spec := "fnExactDefTypes", unfollowed := true, recurses := true, loops := true, apart := false, narrowed := true }
def FnExactDefTypesUptoSaid : Prop := fnExactDefTypesUptoRow.holds Try.pinned (OpenSpec.upto fnExactDefTypesSpec)

/-- 'laws.FnPlacesOf', WHERE WHAT IT READS IS OF BULK AT MOST 1048576: true; the input reads as it did. -/
def fnPlacesOfUptoRow : OpenClaim := { program := "ytihlbbbajaepoaa", sum := "7917d0e113a1e2e838aa277c4b1a69fda6c711188c959099b392bcbc29341fae", func := "loop.example/depkernel/laws.FnPlacesOf", spec := "fnPlacesOf", unfollowed := true, recurses := true, apart := false, narrowed := true }
def FnPlacesOfUptoSaid : Prop := fnPlacesOfUptoRow.holds Try.pinned (OpenSpec.upto fnPlacesOfSpec)

end Rows
end Go.Proofs.Ytihlbbbajaepoaa
