/-
  NARROWER THAN 'FOR EVERY INPUT', by the rows' own cells (each row's printed sentence says how): FnExactUsedDefs: loops.
  DERIVED. THE GIVEN ROWS OF THIS SEAT. 3 by the template 'for every input the law returns true; each argument reads behind the call as it read before'; 0 by the template 'total and deterministic' (their statements: YtpddjebdncaceaaGreatTotals.lean).
  GIVEN WITH THE SEED: the statements are not yours to turn. If you find one false, say at which input.
  Laid BY PROGRAM, IN A SANDBOX (cutbox-rows.mjs): the forced cells as the released guide's own fill.sh prints them over the translation 1317e13de8f622d4… (all of the seat's roots in one cut). By AI agents, Wed Nov 11 2026. No macro, syntax, notation, axiom, sorry.
-/
import Derived.Test.YtpddjebdncaceaaGreatChecked
import GoSem.Claim
import GoSem.ClaimJoined
import GoSem.ClaimMapViews
import Derived.JoinedTies
import Derived.KernelRfl
namespace Go.Proofs.YtpddjebdncaceaaGreat
/- THE CELL 'sum', in the pinned program and in every row, IS THE sha256 OF THE DUMP (.gsa) THAT YtpddjebdncaceaaGreatProg.lean LOADS. Nothing in Lean hashes anything: it is a label: what it is worth is what the hold of that sum in a sandbox is worth. -/
noncomputable def Tryz.pinned : Pinned := { name := "ytpddjebdncaceaagreat", sum := "1317e13de8f622d44cd6c74e71f633c3facc2bd8ee559708bfaf2bfdb3bf509e", checked := Tryz.checked }
namespace Rows
def none {H : Type} : Left H := { results := [], args := [] }

/-- 'laws.FnExactUsedDefs': WHATEVER THE INPUT: true; the input reads as it did. -/
def fnExactUsedDefsSpec : ChangeSpec := { name := "fnExactUsedDefs", fn := fun _ => fun
  | [d1, d2] => { results := [.lit (.bool true)], args := [d1, d2] }
  | _ => none }
def fnExactUsedDefsRow : OpenClaim := { program := "ytpddjebdncaceaagreat", sum := "1317e13de8f622d44cd6c74e71f633c3facc2bd8ee559708bfaf2bfdb3bf509e", func := "loop.example/depkernel/laws.FnExactUsedDefs", spec := "fnExactUsedDefs", unfollowed := true, recurses := true, loops := true, plainKeys := false, apart := false }
def FnExactUsedDefsSaid : Prop := fnExactUsedDefsRow.holds Tryz.pinned (OpenSpec.ofChange fnExactUsedDefsSpec)

/-- ITS FALSE NEIGHBOUR: 'it returns false'. Refute it at one input. -/
def fnExactUsedDefsWrong : ChangeSpec := { name := "fnExactUsedDefs", fn := fun _ => fun
  | [d1, d2] => { results := [.lit (.bool false)], args := [d1, d2] }
  | _ => none }
def FnExactUsedDefsWrongFalsely : Prop := fnExactUsedDefsRow.holds Tryz.pinned (OpenSpec.ofChange fnExactUsedDefsWrong)

/-- 'laws.FnContractAt': WHATEVER THE INPUT: true; the input reads as it did. -/
def fnContractAtSpec : ChangeSpec := { name := "fnContractAt", fn := fun _ => fun
  | [d] => { results := [.lit (.bool true)], args := [d] }
  | _ => none }
def fnContractAtRow : OpenClaim := { program := "ytpddjebdncaceaagreat", sum := "1317e13de8f622d44cd6c74e71f633c3facc2bd8ee559708bfaf2bfdb3bf509e", func := "loop.example/depkernel/laws.FnContractAt", spec := "fnContractAt", unfollowed := true, recurses := true, plainKeys := false, apart := false }
def FnContractAtSaid : Prop := fnContractAtRow.holds Tryz.pinned (OpenSpec.ofChange fnContractAtSpec)

/-- ITS FALSE NEIGHBOUR: 'it returns false'. Refute it at one input. -/
def fnContractAtWrong : ChangeSpec := { name := "fnContractAt", fn := fun _ => fun
  | [d] => { results := [.lit (.bool false)], args := [d] }
  | _ => none }
def FnContractAtWrongFalsely : Prop := fnContractAtRow.holds Tryz.pinned (OpenSpec.ofChange fnContractAtWrong)

/-- 'laws.FnFirstRedex': WHATEVER THE INPUT: true; the input reads as it did. -/
def fnFirstRedexSpec : ChangeSpec := { name := "fnFirstRedex", fn := fun _ => fun
  | [d] => { results := [.lit (.bool true)], args := [d] }
  | _ => none }
def fnFirstRedexRow : OpenClaim := { program := "ytpddjebdncaceaagreat", sum := "1317e13de8f622d44cd6c74e71f633c3facc2bd8ee559708bfaf2bfdb3bf509e", func := "loop.example/depkernel/laws.FnFirstRedex", spec := "fnFirstRedex", unfollowed := true, recurses := true, plainKeys := false, apart := false }
def FnFirstRedexSaid : Prop := fnFirstRedexRow.holds Tryz.pinned (OpenSpec.ofChange fnFirstRedexSpec)

/-- ITS FALSE NEIGHBOUR: 'it returns false'. Refute it at one input. -/
def fnFirstRedexWrong : ChangeSpec := { name := "fnFirstRedex", fn := fun _ => fun
  | [d] => { results := [.lit (.bool false)], args := [d] }
  | _ => none }
def FnFirstRedexWrongFalsely : Prop := fnFirstRedexRow.holds Tryz.pinned (OpenSpec.ofChange fnFirstRedexWrong)

/- THE SECOND FORM. 'bulk': how many values and letters a reading holds, each counted each time it is reached (what is shared counts as often as it is met; a slice's spare places count too). A statement '..UptoSaid' is the law's where the arguments, and the package variables that the reading takes, are together of bulk at most 1048576: NARROWER than '..Said'. Prove '..Said' where nothing that the law and all that it calls make is longer than what came in: it says more and counts as full. Else prove '..UptoSaid'. A law counts once. -/
mutual
def uptoBulk {H : Type} : DataW H → Nat
  | .lit (.string bytes) => bytes.length + 1
  | .lit _ => 1
  | .nil => 1
  | .ptr d => uptoBulk d + 1
  | .slice elems spare => uptoBulkAll elems + uptoBulkAll spare + 1
  | .agg parts => uptoBulkAll parts + 1
  | .iface _ d => uptoBulk d + 1
  | .map entries => uptoBulkEntries entries + 1
  | .held _ => 1
def uptoBulkAll {H : Type} : List (DataW H) → Nat
  | [] => 0
  | d :: r => uptoBulk d + uptoBulkAll r
def uptoBulkEntries {H : Type} : List (Lit × DataW H) → Nat
  | [] => 0
  | x :: r => uptoBulkEntry x + uptoBulkEntries r
def uptoBulkEntry {H : Type} : Lit × DataW H → Nat
  | (.string bytes, d) => bytes.length + uptoBulk d + 1
  | (_, d) => uptoBulk d + 1
 end
def uptoSmall : (H : Type) → List (DataW H) → Bool := fun _ ds => decide (uptoBulkAll ds ≤ 1048576)
def OpenSpec.upto (s : _root_.Go.ChangeSpec) : _root_.Go.OpenSpec := { _root_.Go.OpenSpec.ofChange s with cond := some uptoSmall }

/-- 'laws.FnExactUsedDefs', WHERE WHAT IT READS IS OF BULK AT MOST 1048576: true; the input reads as it did. -/
def fnExactUsedDefsUptoRow : OpenClaim := { program := "ytpddjebdncaceaagreat", sum := "1317e13de8f622d44cd6c74e71f633c3facc2bd8ee559708bfaf2bfdb3bf509e", func := "loop.example/depkernel/laws.FnExactUsedDefs", spec := "fnExactUsedDefs", unfollowed := true, recurses := true, loops := true, plainKeys := false, apart := false, narrowed := true }
def FnExactUsedDefsUptoSaid : Prop := fnExactUsedDefsUptoRow.holds Tryz.pinned (OpenSpec.upto fnExactUsedDefsSpec)

/-- 'laws.FnContractAt', WHERE WHAT IT READS IS OF BULK AT MOST 1048576: true; the input reads as it did. -/
def fnContractAtUptoRow : OpenClaim := { program := "ytpddjebdncaceaagreat", sum := "1317e13de8f622d44cd6c74e71f633c3facc2bd8ee559708bfaf2bfdb3bf509e", func := "loop.example/depkernel/laws.FnContractAt", spec := "fnContractAt", unfollowed := true, recurses := true, plainKeys := false, apart := false, narrowed := true }
def FnContractAtUptoSaid : Prop := fnContractAtUptoRow.holds Tryz.pinned (OpenSpec.upto fnContractAtSpec)

/-- 'laws.FnFirstRedex', WHERE WHAT IT READS IS OF BULK AT MOST 1048576: true; the input reads as it did. -/
def fnFirstRedexUptoRow : OpenClaim := { program := "ytpddjebdncaceaagreat", sum := "1317e13de8f622d44cd6c74e71f633c3facc2bd8ee559708bfaf2bfdb3bf509e", func := "loop.example/depkernel/laws.FnFirstRedex", spec := "fnFirstRedex", unfollowed := true, recurses := true, plainKeys := false, apart := false, narrowed := true }
def FnFirstRedexUptoSaid : Prop := fnFirstRedexUptoRow.holds Tryz.pinned (OpenSpec.upto fnFirstRedexSpec)

end Rows
end Go.Proofs.YtpddjebdncaceaaGreat
