/-
  NARROWER THAN 'FOR EVERY INPUT', by the rows' own cells (each row's printed sentence says how): FnExactUsedDefs: loops.
  DERIVED. THE GIVEN ROWS OF THIS SEAT. 6 by the template 'for every input the law returns true; each argument reads behind the call as it read before'; 0 by the template 'total and deterministic' (their statements: YtihlbbbajaepoaaGreatTotals.lean).
  GIVEN WITH THE SEED: the statements are not yours to turn. If you find one false, say at which input.
  Laid BY PROGRAM, IN A SANDBOX (cutbox-rows.mjs): the forced cells as the released guide's own fill.sh prints them over the translation 649e23c94664a85f… (all of the seat's roots in one cut). By AI agents, Wed Nov 11 2026. No macro, syntax, notation, axiom, sorry.
-/
import Derived.Test.YtihlbbbajaepoaaGreatChecked
import GoSem.Claim
import GoSem.ClaimJoined
import GoSem.ClaimMapViews
import Derived.JoinedTies
import Derived.KernelRfl
namespace Go.Proofs.YtihlbbbajaepoaaGreat
/- THE CELL 'sum', in the pinned program and in every row, IS THE sha256 OF THE DUMP (.gsa) THAT YtihlbbbajaepoaaGreatProg.lean LOADS. Nothing in Lean hashes anything: it is a label: what it is worth is what the hold of that sum in a sandbox is worth. -/
noncomputable def Tryz.pinned : Pinned := { name := "ytihlbbbajaepoaagreat", sum := "649e23c94664a85ff6dd9f7586df9d415c63059a173c73c76f38849723df2bcd", checked := Tryz.checked }
namespace Rows
def none {H : Type} : Left H := { results := [], args := [] }

/-- 'laws.FnExactUsedDefs': WHATEVER THE INPUT: true; the input reads as it did. -/
def fnExactUsedDefsSpec : ChangeSpec := { name := "fnExactUsedDefs", fn := fun _ => fun
  | [d1, d2] => { results := [.lit (.bool true)], args := [d1, d2] }
  | _ => none }
def fnExactUsedDefsRow : OpenClaim := { program := "ytihlbbbajaepoaagreat", sum := "649e23c94664a85ff6dd9f7586df9d415c63059a173c73c76f38849723df2bcd", func := "loop.example/depkernel/laws.FnExactUsedDefs", spec := "fnExactUsedDefs", unfollowed := true, recurses := true, loops := true, plainKeys := false, apart := false }
def FnExactUsedDefsSaid : Prop := fnExactUsedDefsRow.holds Tryz.pinned (OpenSpec.ofChange fnExactUsedDefsSpec)

/-- ITS FALSE NEIGHBOUR: 'it returns false'. Refute it at one input. -/
def fnExactUsedDefsWrong : ChangeSpec := { name := "fnExactUsedDefs", fn := fun _ => fun
  | [d1, d2] => { results := [.lit (.bool false)], args := [d1, d2] }
  | _ => none }
def FnExactUsedDefsWrongFalsely : Prop := fnExactUsedDefsRow.holds Tryz.pinned (OpenSpec.ofChange fnExactUsedDefsWrong)

/-- 'laws.FnTermAt': WHATEVER THE INPUT: true; the input reads as it did. -/
def fnTermAtSpec : ChangeSpec := { name := "fnTermAt", fn := fun _ => fun
  | [d1, d2] => { results := [.lit (.bool true)], args := [d1, d2] }
  | _ => none }
def fnTermAtRow : OpenClaim := { program := "ytihlbbbajaepoaagreat", sum := "649e23c94664a85ff6dd9f7586df9d415c63059a173c73c76f38849723df2bcd", func := "loop.example/depkernel/laws.FnTermAt", spec := "fnTermAt", unfollowed := true, recurses := true, plainKeys := false, apart := false }
def FnTermAtSaid : Prop := fnTermAtRow.holds Tryz.pinned (OpenSpec.ofChange fnTermAtSpec)

/-- ITS FALSE NEIGHBOUR: 'it returns false'. Refute it at one input. -/
def fnTermAtWrong : ChangeSpec := { name := "fnTermAt", fn := fun _ => fun
  | [d1, d2] => { results := [.lit (.bool false)], args := [d1, d2] }
  | _ => none }
def FnTermAtWrongFalsely : Prop := fnTermAtRow.holds Tryz.pinned (OpenSpec.ofChange fnTermAtWrong)

/-- 'laws.FnPutAt': WHATEVER THE INPUT: true; the input reads as it did. -/
def fnPutAtSpec : ChangeSpec := { name := "fnPutAt", fn := fun _ => fun
  | [d] => { results := [.lit (.bool true)], args := [d] }
  | _ => none }
def fnPutAtRow : OpenClaim := { program := "ytihlbbbajaepoaagreat", sum := "649e23c94664a85ff6dd9f7586df9d415c63059a173c73c76f38849723df2bcd", func := "loop.example/depkernel/laws.FnPutAt", spec := "fnPutAt", unfollowed := true, recurses := true, plainKeys := false, apart := false }
def FnPutAtSaid : Prop := fnPutAtRow.holds Tryz.pinned (OpenSpec.ofChange fnPutAtSpec)

/-- ITS FALSE NEIGHBOUR: 'it returns false'. Refute it at one input. -/
def fnPutAtWrong : ChangeSpec := { name := "fnPutAt", fn := fun _ => fun
  | [d] => { results := [.lit (.bool false)], args := [d] }
  | _ => none }
def FnPutAtWrongFalsely : Prop := fnPutAtRow.holds Tryz.pinned (OpenSpec.ofChange fnPutAtWrong)

/-- 'laws.FnContextAt': WHATEVER THE INPUT: true; the input reads as it did. -/
def fnContextAtSpec : ChangeSpec := { name := "fnContextAt", fn := fun _ => fun
  | [d] => { results := [.lit (.bool true)], args := [d] }
  | _ => none }
def fnContextAtRow : OpenClaim := { program := "ytihlbbbajaepoaagreat", sum := "649e23c94664a85ff6dd9f7586df9d415c63059a173c73c76f38849723df2bcd", func := "loop.example/depkernel/laws.FnContextAt", spec := "fnContextAt", unfollowed := true, recurses := true, plainKeys := false, apart := false }
def FnContextAtSaid : Prop := fnContextAtRow.holds Tryz.pinned (OpenSpec.ofChange fnContextAtSpec)

/-- ITS FALSE NEIGHBOUR: 'it returns false'. Refute it at one input. -/
def fnContextAtWrong : ChangeSpec := { name := "fnContextAt", fn := fun _ => fun
  | [d] => { results := [.lit (.bool false)], args := [d] }
  | _ => none }
def FnContextAtWrongFalsely : Prop := fnContextAtRow.holds Tryz.pinned (OpenSpec.ofChange fnContextAtWrong)

/-- 'laws.FnRedexPlaces': WHATEVER THE INPUT: true; the input reads as it did. -/
def fnRedexPlacesSpec : ChangeSpec := { name := "fnRedexPlaces", fn := fun _ => fun
  | [d] => { results := [.lit (.bool true)], args := [d] }
  | _ => none }
def fnRedexPlacesRow : OpenClaim := { program := "ytihlbbbajaepoaagreat", sum := "649e23c94664a85ff6dd9f7586df9d415c63059a173c73c76f38849723df2bcd", func := "loop.example/depkernel/laws.FnRedexPlaces", spec := "fnRedexPlaces", unfollowed := true, recurses := true, plainKeys := false, apart := false }
def FnRedexPlacesSaid : Prop := fnRedexPlacesRow.holds Tryz.pinned (OpenSpec.ofChange fnRedexPlacesSpec)

/-- ITS FALSE NEIGHBOUR: 'it returns false'. Refute it at one input. -/
def fnRedexPlacesWrong : ChangeSpec := { name := "fnRedexPlaces", fn := fun _ => fun
  | [d] => { results := [.lit (.bool false)], args := [d] }
  | _ => none }
def FnRedexPlacesWrongFalsely : Prop := fnRedexPlacesRow.holds Tryz.pinned (OpenSpec.ofChange fnRedexPlacesWrong)

/-- 'laws.FnNormalPlaces': WHATEVER THE INPUT: true; the input reads as it did. -/
def fnNormalPlacesSpec : ChangeSpec := { name := "fnNormalPlaces", fn := fun _ => fun
  | [d] => { results := [.lit (.bool true)], args := [d] }
  | _ => none }
def fnNormalPlacesRow : OpenClaim := { program := "ytihlbbbajaepoaagreat", sum := "649e23c94664a85ff6dd9f7586df9d415c63059a173c73c76f38849723df2bcd", func := "loop.example/depkernel/laws.FnNormalPlaces", spec := "fnNormalPlaces", unfollowed := true, recurses := true, plainKeys := false, apart := false }
def FnNormalPlacesSaid : Prop := fnNormalPlacesRow.holds Tryz.pinned (OpenSpec.ofChange fnNormalPlacesSpec)

/-- ITS FALSE NEIGHBOUR: 'it returns false'. Refute it at one input. -/
def fnNormalPlacesWrong : ChangeSpec := { name := "fnNormalPlaces", fn := fun _ => fun
  | [d] => { results := [.lit (.bool false)], args := [d] }
  | _ => none }
def FnNormalPlacesWrongFalsely : Prop := fnNormalPlacesRow.holds Tryz.pinned (OpenSpec.ofChange fnNormalPlacesWrong)

/- THE SECOND FORM. 'bulk': how many values and letters a reading holds, each counted each time it is reached (what is shared counts as often as it is met; a slice's spare places count too). A statement '..UptoSaid' is the law's where the arguments, and the package variables that the reading takes, are together of bulk at most 1048576: NARROWER than '..Said'. Prove '..Said' where nothing that the law and all that it calls make is longer than what came in: it says more and counts as full. Else prove '..UptoSaid'. A law counts once. -/
mutual
def uptoBulk {H : Type} : DataW H → Nat
  | .lit (.string bytes) => bytes.length + 1
  | .lit _ => 1
  | .nil => 1
  | .ptr d => uptoBulk d + 1
  | .slice elems spare => uptoBulkAll elems + uptoBulkAll spare + 1
  | .agg parts => uptoBulkAll parts + 1
  | .iface _ d => uptoBulk d + 1
  | .map entries => uptoBulkEntries entries + 1
  | .held _ => 1
def uptoBulkAll {H : Type} : List (DataW H) → Nat
  | [] => 0
  | d :: r => uptoBulk d + uptoBulkAll r
def uptoBulkEntries {H : Type} : List (Lit × DataW H) → Nat
  | [] => 0
  | x :: r => uptoBulkEntry x + uptoBulkEntries r
def uptoBulkEntry {H : Type} : Lit × DataW H → Nat
  | (.string bytes, d) => bytes.length + uptoBulk d + 1
  | (_, d) => uptoBulk d + 1
 end
def uptoSmall : (H : Type) → List (DataW H) → Bool := fun _ ds => decide (uptoBulkAll ds ≤ 1048576)
def OpenSpec.upto (s : _root_.Go.ChangeSpec) : _root_.Go.OpenSpec := { _root_.Go.OpenSpec.ofChange s with cond := some uptoSmall }

/-- 'laws.FnExactUsedDefs', WHERE WHAT IT READS IS OF BULK AT MOST 1048576: true; the input reads as it did. -/
def fnExactUsedDefsUptoRow : OpenClaim := { program := "ytihlbbbajaepoaagreat", sum := "649e23c94664a85ff6dd9f7586df9d415c63059a173c73c76f38849723df2bcd", func := "loop.example/depkernel/laws.FnExactUsedDefs", spec := "fnExactUsedDefs", unfollowed := true, recurses := true, loops := true, plainKeys := false, apart := false, narrowed := true }
def FnExactUsedDefsUptoSaid : Prop := fnExactUsedDefsUptoRow.holds Tryz.pinned (OpenSpec.upto fnExactUsedDefsSpec)

/-- 'laws.FnTermAt', WHERE WHAT IT READS IS OF BULK AT MOST 1048576: true; the input reads as it did. -/
def fnTermAtUptoRow : OpenClaim := { program := "ytihlbbbajaepoaagreat", sum := "649e23c94664a85ff6dd9f7586df9d415c63059a173c73c76f38849723df2bcd", func := "loop.example/depkernel/laws.FnTermAt", spec := "fnTermAt", unfollowed := true, recurses := true, plainKeys := false, apart := false, narrowed := true }
def FnTermAtUptoSaid : Prop := fnTermAtUptoRow.holds Tryz.pinned (OpenSpec.upto fnTermAtSpec)

/-- 'laws.FnPutAt', WHERE WHAT IT READS IS OF BULK AT MOST 1048576: true; the input reads as it did. -/
def fnPutAtUptoRow : OpenClaim := { program := "ytihlbbbajaepoaagreat", sum := "649e23c94664a85ff6dd9f7586df9d415c63059a173c73c76f38849723df2bcd", func := "loop.example/depkernel/laws.FnPutAt", spec := "fnPutAt", unfollowed := true, recurses := true, plainKeys := false, apart := false, narrowed := true }
def FnPutAtUptoSaid : Prop := fnPutAtUptoRow.holds Tryz.pinned (OpenSpec.upto fnPutAtSpec)

/-- 'laws.FnContextAt', WHERE WHAT IT READS IS OF BULK AT MOST 1048576: true; the input reads as it did. -/
def fnContextAtUptoRow : OpenClaim := { program := "ytihlbbbajaepoaagreat", sum := "649e23c94664a85ff6dd9f7586df9d415c63059a173c73c76f38849723df2bcd", func := "loop.example/depkernel/laws.FnContextAt", spec := "fnContextAt", unfollowed := true, recurses := true, plainKeys := false, apart := false, narrowed := true }
def FnContextAtUptoSaid : Prop := fnContextAtUptoRow.holds Tryz.pinned (OpenSpec.upto fnContextAtSpec)

/-- 'laws.FnRedexPlaces', WHERE WHAT IT READS IS OF BULK AT MOST 1048576: true; the input reads as it did. -/
def fnRedexPlacesUptoRow : OpenClaim := { program := "ytihlbbbajaepoaagreat", sum := "649e23c94664a85ff6dd9f7586df9d415c63059a173c73c76f38849723df2bcd", func := "loop.example/depkernel/laws.FnRedexPlaces", spec := "fnRedexPlaces", unfollowed := true, recurses := true, plainKeys := false, apart := false, narrowed := true }
def FnRedexPlacesUptoSaid : Prop := fnRedexPlacesUptoRow.holds Tryz.pinned (OpenSpec.upto fnRedexPlacesSpec)

/-- 'laws.FnNormalPlaces', WHERE WHAT IT READS IS OF BULK AT MOST 1048576: true; the input reads as it did. -/
def fnNormalPlacesUptoRow : OpenClaim := { program := "ytihlbbbajaepoaagreat", sum := "649e23c94664a85ff6dd9f7586df9d415c63059a173c73c76f38849723df2bcd", func := "loop.example/depkernel/laws.FnNormalPlaces", spec := "fnNormalPlaces", unfollowed := true, recurses := true, plainKeys := false, apart := false, narrowed := true }
def FnNormalPlacesUptoSaid : Prop := fnNormalPlacesUptoRow.holds Tryz.pinned (OpenSpec.upto fnNormalPlacesSpec)

end Rows
end Go.Proofs.YtihlbbbajaepoaaGreat
