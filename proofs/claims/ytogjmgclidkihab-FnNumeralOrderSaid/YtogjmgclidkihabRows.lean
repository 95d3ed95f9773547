/-
  No cell of these rows narrows 'for every input' (looked for: loops, veiled, ifaces, maps, wideKeys, modest, calm, conditions, laid).
  DERIVED. THE GIVEN ROWS OF THIS SEAT. 4 by the template 'for every input the law returns true; each argument reads behind the call as it read before'; 0 by the template 'total and deterministic' (their statements: YtogjmgclidkihabTotals.lean).
  GIVEN WITH THE SEED: the statements are not yours to turn. If you find one false, say at which input.
  Laid BY PROGRAM, IN A SANDBOX (cutbox-rows.mjs): the forced cells as the released guide's own fill.sh prints them over the translation 2ffb05637cacbab4… (all of the seat's roots in one cut). By AI agents, Wed Nov 11 2026. No macro, syntax, notation, axiom, sorry.
-/
import Derived.Test.YtogjmgclidkihabChecked
import GoSem.Claim
import GoSem.ClaimJoined
import GoSem.ClaimMapViews
import Derived.JoinedTies
import Derived.KernelRfl
namespace Go.Proofs.Ytogjmgclidkihab
/- THE CELL 'sum', in the pinned program and in every row, IS THE sha256 OF THE DUMP (.gsa) THAT YtogjmgclidkihabProg.lean LOADS. Nothing in Lean hashes anything: it is a label: what it is worth is what the hold of that sum in a sandbox is worth. -/
noncomputable def Try.pinned : Pinned := { name := "ytogjmgclidkihab", sum := "2ffb05637cacbab42ba2d83758d6ec3a7041826ff283b0882a174d10fe7c29c4", checked := Try.checked }
namespace Rows
def none {H : Type} : Left H := { results := [], args := [] }

/-- 'laws.FnNumeralOrder': WHATEVER THE INPUT: true; the input reads as it did. -/
def fnNumeralOrderSpec : ChangeSpec := { name := "fnNumeralOrder", fn := fun _ => fun
  | [d1, d2] => { results := [.lit (.bool true)], args := [d1, d2] }
  | _ => none }
def fnNumeralOrderRow : OpenClaim := { program := "ytogjmgclidkihab", sum := "2ffb05637cacbab42ba2d83758d6ec3a7041826ff283b0882a174d10fe7c29c4", func := "loop.example/depkernel/laws.FnNumeralOrder", spec := "fnNumeralOrder", unfollowed := true, recurses := true, plainKeys := false, apart := false }
def FnNumeralOrderSaid : Prop := fnNumeralOrderRow.holds Try.pinned (OpenSpec.ofChange fnNumeralOrderSpec)

/-- ITS FALSE NEIGHBOUR: 'it returns false'. Refute it at one input. -/
def fnNumeralOrderWrong : ChangeSpec := { name := "fnNumeralOrder", fn := fun _ => fun
  | [d1, d2] => { results := [.lit (.bool false)], args := [d1, d2] }
  | _ => none }
def FnNumeralOrderWrongFalsely : Prop := fnNumeralOrderRow.holds Try.pinned (OpenSpec.ofChange fnNumeralOrderWrong)

/-- 'laws.FnCountNodes': WHATEVER THE INPUT: true; the input reads as it did. -/
def fnCountNodesSpec : ChangeSpec := { name := "fnCountNodes", fn := fun _ => fun
  | [d] => { results := [.lit (.bool true)], args := [d] }
  | _ => none }
def fnCountNodesRow : OpenClaim := { program := "ytogjmgclidkihab", sum := "2ffb05637cacbab42ba2d83758d6ec3a7041826ff283b0882a174d10fe7c29c4", func := "loop.example/depkernel/laws.FnCountNodes", spec := "fnCountNodes", unfollowed := true, recurses := true, plainKeys := false, apart := false }
def FnCountNodesSaid : Prop := fnCountNodesRow.holds Try.pinned (OpenSpec.ofChange fnCountNodesSpec)

/-- ITS FALSE NEIGHBOUR: 'it returns false'. Refute it at one input. -/
def fnCountNodesWrong : ChangeSpec := { name := "fnCountNodes", fn := fun _ => fun
  | [d] => { results := [.lit (.bool false)], args := [d] }
  | _ => none }
def FnCountNodesWrongFalsely : Prop := fnCountNodesRow.holds Try.pinned (OpenSpec.ofChange fnCountNodesWrong)

/-- 'laws.FnTermParts': WHATEVER THE INPUT: true; the input reads as it did. -/
def fnTermPartsSpec : ChangeSpec := { name := "fnTermParts", fn := fun _ => fun
  | [d] => { results := [.lit (.bool true)], args := [d] }
  | _ => none }
def fnTermPartsRow : OpenClaim := { program := "ytogjmgclidkihab", sum := "2ffb05637cacbab42ba2d83758d6ec3a7041826ff283b0882a174d10fe7c29c4", func := "loop.example/depkernel/laws.FnTermParts", spec := "fnTermParts", unfollowed := true, recurses := true, plainKeys := false, apart := false }
def FnTermPartsSaid : Prop := fnTermPartsRow.holds Try.pinned (OpenSpec.ofChange fnTermPartsSpec)

/-- ITS FALSE NEIGHBOUR: 'it returns false'. Refute it at one input. -/
def fnTermPartsWrong : ChangeSpec := { name := "fnTermParts", fn := fun _ => fun
  | [d] => { results := [.lit (.bool false)], args := [d] }
  | _ => none }
def FnTermPartsWrongFalsely : Prop := fnTermPartsRow.holds Try.pinned (OpenSpec.ofChange fnTermPartsWrong)

/-- 'laws.FnTextLength': WHATEVER THE INPUT: true; the input reads as it did. -/
def fnTextLengthSpec : ChangeSpec := { name := "fnTextLength", fn := fun _ => fun
  | [d] => { results := [.lit (.bool true)], args := [d] }
  | _ => none }
def fnTextLengthRow : OpenClaim := { program := "ytogjmgclidkihab", sum := "2ffb05637cacbab42ba2d83758d6ec3a7041826ff283b0882a174d10fe7c29c4", func := "loop.example/depkernel/laws.FnTextLength", spec := "fnTextLength", unfollowed := true, recurses := true, plainKeys := false, apart := false }
def FnTextLengthSaid : Prop := fnTextLengthRow.holds Try.pinned (OpenSpec.ofChange fnTextLengthSpec)

/-- ITS FALSE NEIGHBOUR: 'it returns false'. Refute it at one input. -/
def fnTextLengthWrong : ChangeSpec := { name := "fnTextLength", fn := fun _ => fun
  | [d] => { results := [.lit (.bool false)], args := [d] }
  | _ => none }
def FnTextLengthWrongFalsely : Prop := fnTextLengthRow.holds Try.pinned (OpenSpec.ofChange fnTextLengthWrong)

/- THE SECOND FORM. 'bulk': how many values and letters a reading holds, each counted each time it is reached (what is shared counts as often as it is met; a slice's spare places count too). A statement '..UptoSaid' is the law's where the arguments, and the package variables that the reading takes, are together of bulk at most 1048576: NARROWER than '..Said'. Prove '..Said' where nothing that the law and all that it calls make is longer than what came in: it says more and counts as full. Else prove '..UptoSaid'. A law counts once. -/
mutual
def uptoBulk {H : Type} : DataW H → Nat
  | .lit (.string bytes) => bytes.length + 1
  | .lit _ => 1
  | .nil => 1
  | .ptr d => uptoBulk d + 1
  | .slice elems spare => uptoBulkAll elems + uptoBulkAll spare + 1
  | .agg parts => uptoBulkAll parts + 1
  | .iface _ d => uptoBulk d + 1
  | .map entries => uptoBulkEntries entries + 1
  | .held _ => 1
def uptoBulkAll {H : Type} : List (DataW H) → Nat
  | [] => 0
  | d :: r => uptoBulk d + uptoBulkAll r
def uptoBulkEntries {H : Type} : List (Lit × DataW H) → Nat
  | [] => 0
  | x :: r => uptoBulkEntry x + uptoBulkEntries r
def uptoBulkEntry {H : Type} : Lit × DataW H → Nat
  | (.string bytes, d) => bytes.length + uptoBulk d + 1
  | (_, d) => uptoBulk d + 1
 end
def uptoSmall : (H : Type) → List (DataW H) → Bool := fun _ ds => decide (uptoBulkAll ds ≤ 1048576)
def OpenSpec.upto (s : _root_.Go.ChangeSpec) : _root_.Go.OpenSpec := { _root_.Go.OpenSpec.ofChange s with cond := some uptoSmall }

/-- 'laws.FnNumeralOrder', WHERE WHAT IT READS IS OF BULK AT MOST 1048576: true; the input reads as it did. -/
def fnNumeralOrderUptoRow : OpenClaim := { program := "ytogjmgclidkihab", sum := "2ffb05637cacbab42ba2d83758d6ec3a7041826ff283b0882a174d10fe7c29c4", func := "loop.example/depkernel/laws.FnNumeralOrder", spec := "fnNumeralOrder", unfollowed := true, recurses := true, plainKeys := false, apart := false, narrowed := true }
def FnNumeralOrderUptoSaid : Prop := fnNumeralOrderUptoRow.holds Try.pinned (OpenSpec.upto fnNumeralOrderSpec)

/-- 'laws.FnCountNodes', WHERE WHAT IT READS IS OF BULK AT MOST 1048576: true; the input reads as it did. -/
def fnCountNodesUptoRow : OpenClaim := { program := "ytogjmgclidkihab", sum := "2ffb05637cacbab42ba2d83758d6ec3a7041826ff283b0882a174d10fe7c29c4", func := "loop.example/depkernel/laws.FnCountNodes", spec := "fnCountNodes", unfollowed := true, recurses := true, plainKeys := false, apart := false, narrowed := true }
def FnCountNodesUptoSaid : Prop := fnCountNodesUptoRow.holds Try.pinned (OpenSpec.upto fnCountNodesSpec)

/-- 'laws.FnTermParts', WHERE WHAT IT READS IS OF BULK AT MOST 1048576: true; the input reads as it did. -/
def fnTermPartsUptoRow : OpenClaim := { program := "ytogjmgclidkihab", sum := "2ffb05637cacbab42ba2d83758d6ec3a7041826ff283b0882a174d10fe7c29c4", func := "loop.example/depkernel/laws.FnTermParts", spec := "fnTermParts", unfollowed := true, recurses := true, plainKeys := false, apart := false, narrowed := true }
def FnTermPartsUptoSaid : Prop := fnTermPartsUptoRow.holds Try.pinned (OpenSpec.upto fnTermPartsSpec)

/-- 'laws.FnTextLength', WHERE WHAT IT READS IS OF BULK AT MOST 1048576: true; the input reads as it did. -/
def fnTextLengthUptoRow : OpenClaim := { program := "ytogjmgclidkihab", sum := "2ffb05637cacbab42ba2d83758d6ec3a7041826ff283b0882a174d10fe7c29c4", func := "loop.example/depkernel/laws.FnTextLength", spec := "fnTextLength", unfollowed := true, recurses := true, plainKeys := false, apart := false, narrowed := true }
def FnTextLengthUptoSaid : Prop := fnTextLengthUptoRow.holds Try.pinned (OpenSpec.upto fnTextLengthSpec)

end Rows
end Go.Proofs.Ytogjmgclidkihab
