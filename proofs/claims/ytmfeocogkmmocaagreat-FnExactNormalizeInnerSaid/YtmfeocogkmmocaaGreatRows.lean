/-
  NARROWER THAN 'FOR EVERY INPUT', by the rows' own cells (each row's printed sentence says how): FnExactNormalize: loops · FnExactNormalizeInner: loops · FnExactConvertible: loops.
  DERIVED. THE GIVEN ROWS OF THIS SEAT. 3 by the template 'for every input the law returns true; each argument reads behind the call as it read before'; 0 by the template 'total and deterministic' (their statements: YtmfeocogkmmocaaGreatTotals.lean).
  GIVEN WITH THE SEED: the statements are not yours to turn. If you find one false, say at which input.
  Laid BY PROGRAM, IN A SANDBOX (cutbox-rows.mjs): the forced cells as the released guide's own fill.sh prints them over the translation 30804a98f7ea50b2… (all of the seat's roots in one cut). By AI agents, Wed Nov 11 2026. No macro, syntax, notation, axiom, sorry.
-/
import Derived.Test.YtmfeocogkmmocaaGreatChecked
import GoSem.Claim
import GoSem.ClaimJoined
import GoSem.ClaimMapViews
import Derived.JoinedTies
import Derived.KernelRfl
namespace Go.Proofs.YtmfeocogkmmocaaGreat
/- THE CELL 'sum', in the pinned program and in every row, IS THE sha256 OF THE DUMP (.gsa) THAT YtmfeocogkmmocaaGreatProg.lean LOADS. Nothing in Lean hashes anything: it is a label: what it is worth is what the hold of that sum in a sandbox is worth. -/
noncomputable def Tryz.pinned : Pinned := { name := "ytmfeocogkmmocaagreat", sum := "30804a98f7ea50b24fd23179603b9e0b0f2393042baec3594a1fc0d42f88e22c", checked := Tryz.checked }
namespace Rows
def none {H : Type} : Left H := { results := [], args := [] }

/-- 'laws.FnExactNormalize': WHATEVER THE INPUT: true; the input reads as it did. -/
def fnExactNormalizeSpec : ChangeSpec := { name := "fnExactNormalize", fn := fun _ => fun
  | [d1, d2] => { results := [.lit (.bool true)], args := [d1, d2] }
  | _ => none }
def fnExactNormalizeRow : OpenClaim := { program := "ytmfeocogkmmocaagreat", sum := "30804a98f7ea50b24fd23179603b9e0b0f2393042baec3594a1fc0d42f88e22c", func := "loop.example/depkernel/laws.FnExactNormalize", spec := "fnExactNormalize", unfollowed := true, recurses := true, loops := true, apart := false }
def FnExactNormalizeSaid : Prop := fnExactNormalizeRow.holds Tryz.pinned (OpenSpec.ofChange fnExactNormalizeSpec)

/-- ITS FALSE NEIGHBOUR: 'it returns false'. Refute it at one input. -/
def fnExactNormalizeWrong : ChangeSpec := { name := "fnExactNormalize", fn := fun _ => fun
  | [d1, d2] => { results := [.lit (.bool false)], args := [d1, d2] }
  | _ => none }
def FnExactNormalizeWrongFalsely : Prop := fnExactNormalizeRow.holds Tryz.pinned (OpenSpec.ofChange fnExactNormalizeWrong)

/-- 'laws.FnExactNormalizeInner': WHATEVER THE INPUT: true; the input reads as it did. -/
def fnExactNormalizeInnerSpec : ChangeSpec := { name := "fnExactNormalizeInner", fn := fun _ => fun
  | [d1, d2] => { results := [.lit (.bool true)], args := [d1, d2] }
  | _ => none }
def fnExactNormalizeInnerRow : OpenClaim := { program := "ytmfeocogkmmocaagreat", sum := "30804a98f7ea50b24fd23179603b9e0b0f2393042baec3594a1fc0d42f88e22c", func := "loop.example/depkernel/laws.FnExactNormalizeInner", spec := "fnExactNormalizeInner", unfollowed := true, recurses := true, loops := true, apart := false }
def FnExactNormalizeInnerSaid : Prop := fnExactNormalizeInnerRow.holds Tryz.pinned (OpenSpec.ofChange fnExactNormalizeInnerSpec)

/-- ITS FALSE NEIGHBOUR: 'it returns false'. Refute it at one input. -/
def fnExactNormalizeInnerWrong : ChangeSpec := { name := "fnExactNormalizeInner", fn := fun _ => fun
  | [d1, d2] => { results := [.lit (.bool false)], args := [d1, d2] }
  | _ => none }
def FnExactNormalizeInnerWrongFalsely : Prop := fnExactNormalizeInnerRow.holds Tryz.pinned (OpenSpec.ofChange fnExactNormalizeInnerWrong)

/-- 'laws.FnExactConvertible': WHATEVER THE INPUT: true; the input reads as it did. -/
def fnExactConvertibleSpec : ChangeSpec := { name := "fnExactConvertible", fn := fun _ => fun
  | [d1, d2, d3] => { results := [.lit (.bool true)], args := [d1, d2, d3] }
  | _ => none }
def fnExactConvertibleRow : OpenClaim := { program := "ytmfeocogkmmocaagreat", sum := "30804a98f7ea50b24fd23179603b9e0b0f2393042baec3594a1fc0d42f88e22c", func := "loop.example/depkernel/laws.FnExactConvertible", spec := "fnExactConvertible", unfollowed := true, recurses := true, loops := true, apart := false }
def FnExactConvertibleSaid : Prop := fnExactConvertibleRow.holds Tryz.pinned (OpenSpec.ofChange fnExactConvertibleSpec)

/-- ITS FALSE NEIGHBOUR: 'it returns false'. Refute it at one input. -/
def fnExactConvertibleWrong : ChangeSpec := { name := "fnExactConvertible", fn := fun _ => fun
  | [d1, d2, d3] => { results := [.lit (.bool false)], args := [d1, d2, d3] }
  | _ => none }
def FnExactConvertibleWrongFalsely : Prop := fnExactConvertibleRow.holds Tryz.pinned (OpenSpec.ofChange fnExactConvertibleWrong)

/- THE SECOND FORM. 'bulk': how many values and letters a reading holds, each counted each time it is reached (what is shared counts as often as it is met; a slice's spare places count too). A statement '..UptoSaid' is the law's where the arguments, and the package variables that the reading takes, are together of bulk at most 1048576: NARROWER than '..Said'. Prove '..Said' where nothing that the law and all that it calls make is longer than what came in: it says more and counts as full. Else prove '..UptoSaid'. A law counts once. -/
mutual
def uptoBulk {H : Type} : DataW H → Nat
  | .lit (.string bytes) => bytes.length + 1
  | .lit _ => 1
  | .nil => 1
  | .ptr d => uptoBulk d + 1
  | .slice elems spare => uptoBulkAll elems + uptoBulkAll spare + 1
  | .agg parts => uptoBulkAll parts + 1
  | .iface _ d => uptoBulk d + 1
  | .map entries => uptoBulkEntries entries + 1
  | .held _ => 1
def uptoBulkAll {H : Type} : List (DataW H) → Nat
  | [] => 0
  | d :: r => uptoBulk d + uptoBulkAll r
def uptoBulkEntries {H : Type} : List (Lit × DataW H) → Nat
  | [] => 0
  | x :: r => uptoBulkEntry x + uptoBulkEntries r
def uptoBulkEntry {H : Type} : Lit × DataW H → Nat
  | (.string bytes, d) => bytes.length + uptoBulk d + 1
  | (_, d) => uptoBulk d + 1
 end
def uptoSmall : (H : Type) → List (DataW H) → Bool := fun _ ds => decide (uptoBulkAll ds ≤ 1048576)
def OpenSpec.upto (s : _root_.Go.ChangeSpec) : _root_.Go.OpenSpec := { _root_.Go.OpenSpec.ofChange s with cond := some uptoSmall }

/-- 'laws.FnExactNormalize', WHERE WHAT IT READS IS OF BULK AT MOST 1048576: true; the input reads as it did. -/
def fnExactNormalizeUptoRow : OpenClaim := { program := "ytmfeocogkmmocaagreat", sum := "30804a98f7ea50b24fd23179603b9e0b0f2393042baec3594a1fc0d42f88e22c", func := "loop.example/depkernel/laws.FnExactNormalize", spec := "fnExactNormalize", unfollowed := true, recurses := true, loops := true, apart := false, narrowed := true }
def FnExactNormalizeUptoSaid : Prop := fnExactNormalizeUptoRow.holds Tryz.pinned (OpenSpec.upto fnExactNormalizeSpec)

/-- 'laws.FnExactNormalizeInner', WHERE WHAT IT READS IS OF BULK AT MOST 1048576: true; the input reads as it did. -/
def fnExactNormalizeInnerUptoRow : OpenClaim := { program := "ytmfeocogkmmocaagreat", sum := "30804a98f7ea50b24fd23179603b9e0b0f2393042baec3594a1fc0d42f88e22c", func := "loop.example/depkernel/laws.FnExactNormalizeInner", spec := "fnExactNormalizeInner", unfollowed := true, recurses := true, loops := true, apart := false, narrowed := true }
def FnExactNormalizeInnerUptoSaid : Prop := fnExactNormalizeInnerUptoRow.holds Tryz.pinned (OpenSpec.upto fnExactNormalizeInnerSpec)

/-- 'laws.FnExactConvertible', WHERE WHAT IT READS IS OF BULK AT MOST 1048576: true; the input reads as it did. -/
def fnExactConvertibleUptoRow : OpenClaim := { program := "ytmfeocogkmmocaagreat", sum := "30804a98f7ea50b24fd23179603b9e0b0f2393042baec3594a1fc0d42f88e22c", func := "loop.example/depkernel/laws.FnExactConvertible", spec := "fnExactConvertible", unfollowed := true, recurses := true, loops := true, apart := false, narrowed := true }
def FnExactConvertibleUptoSaid : Prop := fnExactConvertibleUptoRow.holds Tryz.pinned (OpenSpec.upto fnExactConvertibleSpec)

end Rows
end Go.Proofs.YtmfeocogkmmocaaGreat
