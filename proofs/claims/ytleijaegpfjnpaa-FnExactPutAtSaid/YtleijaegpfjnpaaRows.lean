/-
  NARROWER THAN 'FOR EVERY INPUT', by the rows' own cells (each row's printed sentence says how): FnExactTermAt: loops · FnExactPutAt: loops · FnExactBindersAt: loops · FnExactPlacesOf: loops · FnExactRedexPlaces: loops · FnExactContextAt: loops.
  DERIVED. THE GIVEN ROWS OF THIS SEAT. 6 by the template 'for every input the law returns true; each argument reads behind the call as it read before'; 0 by the template 'total and deterministic' (their statements: YtleijaegpfjnpaaTotals.lean).
  GIVEN WITH THE SEED: the statements are not yours to turn. If you find one false, say at which input.
  Laid BY PROGRAM, IN A SANDBOX (cutbox-rows.mjs): the forced cells as the released guide's own fill.sh prints them over the translation 05939a8bb8fcb162… (all of the seat's roots in one cut). By AI agents, Wed Nov 11 2026. No macro, syntax, notation, axiom, sorry.
-/
import Derived.Test.YtleijaegpfjnpaaChecked
import GoSem.Claim
import GoSem.ClaimJoined
import GoSem.ClaimMapViews
import Derived.JoinedTies
import Derived.KernelRfl
namespace Go.Proofs.Ytleijaegpfjnpaa
/- THE CELL 'sum', in the pinned program and in every row, IS THE sha256 OF THE DUMP (.gsa) THAT YtleijaegpfjnpaaProg.lean LOADS. Nothing in Lean hashes anything: it is a label: what it is worth is what the hold of that sum in a sandbox is worth. -/
noncomputable def Try.pinned : Pinned := { name := "ytleijaegpfjnpaa", sum := "05939a8bb8fcb162d1c15fa0d74f0173320428df1329cde4282278149361d594", checked := Try.checked }
namespace Rows
def none {H : Type} : Left H := { results := [], args := [] }

/-- 'laws.FnExactTermAt': WHATEVER THE INPUT: true; the input reads as it did. -/
def fnExactTermAtSpec : ChangeSpec := { name := "fnExactTermAt", fn := fun _ => fun
  | [d1, d2] => { results := [.lit (.bool true)], args := [d1, d2] }
  | _ => none }
def fnExactTermAtRow : OpenClaim := { program := "ytleijaegpfjnpaa", sum := "05939a8bb8fcb162d1c15fa0d74f0173320428df1329cde4282278149361d594", func := "loop.example/depkernel/laws.FnExactTermAt", spec := "fnExactTermAt", unfollowed := true, recurses := true, loops := true, apart := false }
def FnExactTermAtSaid : Prop := fnExactTermAtRow.holds Try.pinned (OpenSpec.ofChange fnExactTermAtSpec)

/-- ITS FALSE NEIGHBOUR: 'it returns false'. Refute it at one input. -/
def fnExactTermAtWrong : ChangeSpec := { name := "fnExactTermAt", fn := fun _ => fun
  | [d1, d2] => { results := [.lit (.bool false)], args := [d1, d2] }
  | _ => none }
def FnExactTermAtWrongFalsely : Prop := fnExactTermAtRow.holds Try.pinned (OpenSpec.ofChange fnExactTermAtWrong)

/-- 'laws.FnExactPutAt': WHATEVER THE INPUT: true; the input reads as it did. -/
def fnExactPutAtSpec : ChangeSpec := { name := "fnExactPutAt", fn := fun _ => fun
  | [d1, d2, d3] => { results := [.lit (.bool true)], args := [d1, d2, d3] }
  | _ => none }
def fnExactPutAtRow : OpenClaim := { program := "ytleijaegpfjnpaa", sum := "05939a8bb8fcb162d1c15fa0d74f0173320428df1329cde4282278149361d594", func := "loop.example/depkernel/laws.FnExactPutAt", spec := "fnExactPutAt", unfollowed := true, recurses := true, loops := true, apart := false }
def FnExactPutAtSaid : Prop := fnExactPutAtRow.holds Try.pinned (OpenSpec.ofChange fnExactPutAtSpec)

/-- ITS FALSE NEIGHBOUR: 'it returns false'. Refute it at one input. -/
def fnExactPutAtWrong : ChangeSpec := { name := "fnExactPutAt", fn := fun _ => fun
  | [d1, d2, d3] => { results := [.lit (.bool false)], args := [d1, d2, d3] }
  | _ => none }
def FnExactPutAtWrongFalsely : Prop := fnExactPutAtRow.holds Try.pinned (OpenSpec.ofChange fnExactPutAtWrong)

/-- 'laws.FnExactBindersAt': WHATEVER THE INPUT: true; the input reads as it did. -/
def fnExactBindersAtSpec : ChangeSpec := { name := "fnExactBindersAt", fn := fun _ => fun
  | [d1, d2] => { results := [.lit (.bool true)], args := [d1, d2] }
  | _ => none }
def fnExactBindersAtRow : OpenClaim := { program := "ytleijaegpfjnpaa", sum := "05939a8bb8fcb162d1c15fa0d74f0173320428df1329cde4282278149361d594", func := "loop.example/depkernel/laws.FnExactBindersAt", spec := "fnExactBindersAt", unfollowed := true, recurses := true, loops := true, apart := false }
def FnExactBindersAtSaid : Prop := fnExactBindersAtRow.holds Try.pinned (OpenSpec.ofChange fnExactBindersAtSpec)

/-- ITS FALSE NEIGHBOUR: 'it returns false'. Refute it at one input. -/
def fnExactBindersAtWrong : ChangeSpec := { name := "fnExactBindersAt", fn := fun _ => fun
  | [d1, d2] => { results := [.lit (.bool false)], args := [d1, d2] }
  | _ => none }
def FnExactBindersAtWrongFalsely : Prop := fnExactBindersAtRow.holds Try.pinned (OpenSpec.ofChange fnExactBindersAtWrong)

/-- 'laws.FnExactPlacesOf': WHATEVER THE INPUT: true; the input reads as it did. -/
def fnExactPlacesOfSpec : ChangeSpec := { name := "fnExactPlacesOf", fn := fun _ => fun
  | [d] => { results := [.lit (.bool true)], args := [d] }
  | _ => none }
def fnExactPlacesOfRow : OpenClaim := { program := "ytleijaegpfjnpaa", sum := "05939a8bb8fcb162d1c15fa0d74f0173320428df1329cde4282278149361d594", func := "loop.example/depkernel/laws.FnExactPlacesOf", spec := "fnExactPlacesOf", unfollowed := true, recurses := true, loops := true, apart := false }
def FnExactPlacesOfSaid : Prop := fnExactPlacesOfRow.holds Try.pinned (OpenSpec.ofChange fnExactPlacesOfSpec)

/-- ITS FALSE NEIGHBOUR: 'it returns false'. Refute it at one input. -/
def fnExactPlacesOfWrong : ChangeSpec := { name := "fnExactPlacesOf", fn := fun _ => fun
  | [d] => { results := [.lit (.bool false)], args := [d] }
  | _ => none }
def FnExactPlacesOfWrongFalsely : Prop := fnExactPlacesOfRow.holds Try.pinned (OpenSpec.ofChange fnExactPlacesOfWrong)

/-- 'laws.FnExactRedexPlaces': WHATEVER THE INPUT: true; the input reads as it did. -/
def fnExactRedexPlacesSpec : ChangeSpec := { name := "fnExactRedexPlaces", fn := fun _ => fun
  | [d] => { results := [.lit (.bool true)], args := [d] }
  | _ => none }
def fnExactRedexPlacesRow : OpenClaim := { program := "ytleijaegpfjnpaa", sum := "05939a8bb8fcb162d1c15fa0d74f0173320428df1329cde4282278149361d594", func := "loop.example/depkernel/laws.FnExactRedexPlaces", spec := "fnExactRedexPlaces", unfollowed := true, recurses := true, loops := true, apart := false }
def FnExactRedexPlacesSaid : Prop := fnExactRedexPlacesRow.holds Try.pinned (OpenSpec.ofChange fnExactRedexPlacesSpec)

/-- ITS FALSE NEIGHBOUR: 'it returns false'. Refute it at one input. -/
def fnExactRedexPlacesWrong : ChangeSpec := { name := "fnExactRedexPlaces", fn := fun _ => fun
  | [d] => { results := [.lit (.bool false)], args := [d] }
  | _ => none }
def FnExactRedexPlacesWrongFalsely : Prop := fnExactRedexPlacesRow.holds Try.pinned (OpenSpec.ofChange fnExactRedexPlacesWrong)

/-- 'laws.FnExactContextAt': WHATEVER THE INPUT: true; the input reads as it did. -/
def fnExactContextAtSpec : ChangeSpec := { name := "fnExactContextAt", fn := fun _ => fun
  | [d1, d2, d3] => { results := [.lit (.bool true)], args := [d1, d2, d3] }
  | _ => none }
def fnExactContextAtRow : OpenClaim := { program := "ytleijaegpfjnpaa", sum := "05939a8bb8fcb162d1c15fa0d74f0173320428df1329cde4282278149361d594", func := "loop.example/depkernel/laws.FnExactContextAt", spec := "fnExactContextAt", unfollowed := true, recurses := true, loops := true, apart := false }
def FnExactContextAtSaid : Prop := fnExactContextAtRow.holds Try.pinned (OpenSpec.ofChange fnExactContextAtSpec)

/-- ITS FALSE NEIGHBOUR: 'it returns false'. Refute it at one input. -/
def fnExactContextAtWrong : ChangeSpec := { name := "fnExactContextAt", fn := fun _ => fun
  | [d1, d2, d3] => { results := [.lit (.bool false)], args := [d1, d2, d3] }
  | _ => none }
def FnExactContextAtWrongFalsely : Prop := fnExactContextAtRow.holds Try.pinned (OpenSpec.ofChange fnExactContextAtWrong)

/- THE SECOND FORM. 'bulk': how many values and letters a reading holds, each counted each time it is reached (what is shared counts as often as it is met; a slice's spare places count too). A statement '..UptoSaid' is the law's where the arguments, and the package variables that the reading takes, are together of bulk at most 1048576: NARROWER than '..Said'. Prove '..Said' where nothing that the law and all that it calls make is longer than what came in: it says more and counts as full. Else prove '..UptoSaid'. A law counts once. -/
mutual
def uptoBulk {H : Type} : DataW H → Nat
  | .lit (.string bytes) => bytes.length + 1
  | .lit _ => 1
  | .nil => 1
  | .ptr d => uptoBulk d + 1
  | .slice elems spare => uptoBulkAll elems + uptoBulkAll spare + 1
  | .agg parts => uptoBulkAll parts + 1
  | .iface _ d => uptoBulk d + 1
  | .map entries => uptoBulkEntries entries + 1
  | .held _ => 1
def uptoBulkAll {H : Type} : List (DataW H) → Nat
  | [] => 0
  | d :: r => uptoBulk d + uptoBulkAll r
def uptoBulkEntries {H : Type} : List (Lit × DataW H) → Nat
  | [] => 0
  | x :: r => uptoBulkEntry x + uptoBulkEntries r
def uptoBulkEntry {H : Type} : Lit × DataW H → Nat
  | (.string bytes, d) => bytes.length + uptoBulk d + 1
  | (_, d) => uptoBulk d + 1
 end
def uptoSmall : (H : Type) → List (DataW H) → Bool := fun _ ds => decide (uptoBulkAll ds ≤ 1048576)
def OpenSpec.upto (s : _root_.Go.ChangeSpec) : _root_.Go.OpenSpec := { _root_.Go.OpenSpec.ofChange s with cond := some uptoSmall }

/-- 'laws.FnExactTermAt', WHERE WHAT IT READS IS OF BULK AT MOST 1048576: true; the input reads as it did. -/
def fnExactTermAtUptoRow : OpenClaim := { program := "ytleijaegpfjnpaa", sum := "05939a8bb8fcb162d1c15fa0d74f0173320428df1329cde4282278149361d594", func := "loop.example/depkernel/laws.FnExactTermAt", spec := "fnExactTermAt", unfollowed := true, recurses := true, loops := true, apart := false, narrowed := true }
def FnExactTermAtUptoSaid : Prop := fnExactTermAtUptoRow.holds Try.pinned (OpenSpec.upto fnExactTermAtSpec)

/-- 'laws.FnExactPutAt', WHERE WHAT IT READS IS OF BULK AT MOST 1048576: true; the input reads as it did. -/
def fnExactPutAtUptoRow : OpenClaim := { program := "ytleijaegpfjnpaa", sum := "05939a8bb8fcb162d1c15fa0d74f0173320428df1329cde4282278149361d594", func := "loop.example/depkernel/laws.FnExactPutAt", spec := "fnExactPutAt", unfollowed := true, recurses := true, loops := true, apart := false, narrowed := true }
def FnExactPutAtUptoSaid : Prop := fnExactPutAtUptoRow.holds Try.pinned (OpenSpec.upto fnExactPutAtSpec)

/-- 'laws.FnExactBindersAt', WHERE WHAT IT READS IS OF BULK AT MOST 1048576: true; the input reads as it did. -/
def fnExactBindersAtUptoRow : OpenClaim := { program := "ytleijaegpfjnpaa", sum := "05939a8bb8fcb162d1c15fa0d74f0173320428df1329cde4282278149361d594", func := "loop.example/depkernel/laws.FnExactBindersAt", spec := "fnExactBindersAt", unfollowed := true, recurses := true, loops := true, apart := false, narrowed := true }
def FnExactBindersAtUptoSaid : Prop := fnExactBindersAtUptoRow.holds Try.pinned (OpenSpec.upto fnExactBindersAtSpec)

/-- 'laws.FnExactPlacesOf', WHERE WHAT IT READS IS OF BULK AT MOST 1048576: true; the input reads as it did. -/
def fnExactPlacesOfUptoRow : OpenClaim := { program := "ytleijaegpfjnpaa", sum := "05939a8bb8fcb162d1c15fa0d74f0173320428df1329cde4282278149361d594", func := "loop.example/depkernel/laws.FnExactPlacesOf", spec := "fnExactPlacesOf", unfollowed := true, recurses := true, loops := true, apart := false, narrowed := true }
def FnExactPlacesOfUptoSaid : Prop := fnExactPlacesOfUptoRow.holds Try.pinned (OpenSpec.upto fnExactPlacesOfSpec)

/-- 'laws.FnExactRedexPlaces', WHERE WHAT IT READS IS OF BULK AT MOST 1048576: true; the input reads as it did. -/
def fnExactRedexPlacesUptoRow : OpenClaim := { program := "ytleijaegpfjnpaa", sum := "05939a8bb8fcb162d1c15fa0d74f0173320428df1329cde4282278149361d594", func := "loop.example/depkernel/laws.FnExactRedexPlaces", spec := "fnExactRedexPlaces", unfollowed := true, recurses := true, loops := true, apart := false, narrowed := true }
def FnExactRedexPlacesUptoSaid : Prop := fnExactRedexPlacesUptoRow.holds Try.pinned (OpenSpec.upto fnExactRedexPlacesSpec)

/-- 'laws.FnExactContextAt', WHERE WHAT IT READS IS OF BULK AT MOST 1048576: true; the input reads as it did. -/
def fnExactContextAtUptoRow : OpenClaim := { program := "ytleijaegpfjnpaa", sum := "05939a8bb8fcb162d1c15fa0d74f0173320428df1329cde4282278149361d594", func := "loop.example/depkernel/laws.FnExactContextAt", spec := "fnExactContextAt", unfollowed := true, recurses := true, loops := true, apart := false, narrowed := true }
def FnExactContextAtUptoSaid : Prop := fnExactContextAtUptoRow.holds Try.pinned (OpenSpec.upto fnExactContextAtSpec)

end Rows
end Go.Proofs.Ytleijaegpfjnpaa
