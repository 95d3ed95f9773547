/-
  No cell of these rows narrows 'for every input' (looked for: loops, veiled, ifaces, maps, wideKeys, modest, calm, conditions, laid).
  DERIVED. THE GIVEN ROWS OF THIS SEAT. 9 by the template 'for every input the law returns true; each argument reads behind the call as it read before'; 0 by the template 'total and deterministic' (their statements: YtjhjnkeildeedaaTotals.lean).
  GIVEN WITH THE SEED: the statements are not yours to turn. If you find one false, say at which input.
  Laid BY PROGRAM, IN A SANDBOX (cutbox-rows.mjs): the forced cells as the released guide's own fill.sh prints them over the translation dac69d7173b28470… (all of the seat's roots in one cut). By AI agents, Wed Nov 11 2026. No macro, syntax, notation, axiom, sorry.
-/
import Derived.Test.YtjhjnkeildeedaaChecked
import GoSem.Claim
import GoSem.ClaimJoined
import GoSem.ClaimMapViews
import Derived.JoinedTies
import Derived.KernelRfl
namespace Go.Proofs.Ytjhjnkeildeedaa
/- THE CELL 'sum', in the pinned program and in every row, IS THE sha256 OF THE DUMP (.gsa) THAT YtjhjnkeildeedaaProg.lean LOADS. Nothing in Lean hashes anything: it is a label: what it is worth is what the hold of that sum in a sandbox is worth. -/
noncomputable def Try.pinned : Pinned := { name := "ytjhjnkeildeedaa", sum := "dac69d7173b28470a212dbc77f2db2c7f4bd02f5b79a22e902a98404f4389057", checked := Try.checked }
namespace Rows
def none {H : Type} : Left H := { results := [], args := [] }

/-- 'laws.FnExactFunArity': WHATEVER THE INPUT: true; the input reads as it did. -/
def fnExactFunAritySpec : ChangeSpec := { name := "fnExactFunArity", fn := fun _ => fun
  | [d] => { results := [.lit (.bool true)], args := [d] }
  | _ => none }
def fnExactFunArityRow : OpenClaim := { program := "ytjhjnkeildeedaa", sum := "dac69d7173b28470a212dbc77f2db2c7f4bd02f5b79a22e902a98404f4389057", func := "loop.example/depkernel/laws.FnExactFunArity", spec := "fnExactFunArity", unfollowed := true, recurses := true, plainKeys := false, apart := false }
def FnExactFunAritySaid : Prop := fnExactFunArityRow.holds Try.pinned (OpenSpec.ofChange fnExactFunAritySpec)

/-- ITS FALSE NEIGHBOUR: 'it returns false'. Refute it at one input. -/
def fnExactFunArityWrong : ChangeSpec := { name := "fnExactFunArity", fn := fun _ => fun
  | [d] => { results := [.lit (.bool false)], args := [d] }
  | _ => none }
def FnExactFunArityWrongFalsely : Prop := fnExactFunArityRow.holds Try.pinned (OpenSpec.ofChange fnExactFunArityWrong)

/-- 'laws.FnExactFunValue': WHATEVER THE INPUT: true; the input reads as it did. -/
def fnExactFunValueSpec : ChangeSpec := { name := "fnExactFunValue", fn := fun _ => fun
  | [d1, d2] => { results := [.lit (.bool true)], args := [d1, d2] }
  | _ => none }
def fnExactFunValueRow : OpenClaim := { program := "ytjhjnkeildeedaa", sum := "dac69d7173b28470a212dbc77f2db2c7f4bd02f5b79a22e902a98404f4389057", func := "loop.example/depkernel/laws.FnExactFunValue", spec := "fnExactFunValue", unfollowed := true, recurses := true, plainKeys := false, apart := false }
def FnExactFunValueSaid : Prop := fnExactFunValueRow.holds Try.pinned (OpenSpec.ofChange fnExactFunValueSpec)

/-- ITS FALSE NEIGHBOUR: 'it returns false'. Refute it at one input. -/
def fnExactFunValueWrong : ChangeSpec := { name := "fnExactFunValue", fn := fun _ => fun
  | [d1, d2] => { results := [.lit (.bool false)], args := [d1, d2] }
  | _ => none }
def FnExactFunValueWrongFalsely : Prop := fnExactFunValueRow.holds Try.pinned (OpenSpec.ofChange fnExactFunValueWrong)

/-- 'laws.FnExactEqualNumbers': WHATEVER THE INPUT: true; the input reads as it did. -/
def fnExactEqualNumbersSpec : ChangeSpec := { name := "fnExactEqualNumbers", fn := fun _ => fun
  | [d1, d2] => { results := [.lit (.bool true)], args := [d1, d2] }
  | _ => none }
def fnExactEqualNumbersRow : OpenClaim := { program := "ytjhjnkeildeedaa", sum := "dac69d7173b28470a212dbc77f2db2c7f4bd02f5b79a22e902a98404f4389057", func := "loop.example/depkernel/laws.FnExactEqualNumbers", spec := "fnExactEqualNumbers", recurses := true, plainKeys := false, apart := false }
def FnExactEqualNumbersSaid : Prop := fnExactEqualNumbersRow.holds Try.pinned (OpenSpec.ofChange fnExactEqualNumbersSpec)

/-- ITS FALSE NEIGHBOUR: 'it returns false'. Refute it at one input. -/
def fnExactEqualNumbersWrong : ChangeSpec := { name := "fnExactEqualNumbers", fn := fun _ => fun
  | [d1, d2] => { results := [.lit (.bool false)], args := [d1, d2] }
  | _ => none }
def FnExactEqualNumbersWrongFalsely : Prop := fnExactEqualNumbersRow.holds Try.pinned (OpenSpec.ofChange fnExactEqualNumbersWrong)

/-- 'laws.FnFunPlus': WHATEVER THE INPUT: true; the input reads as it did. -/
def fnFunPlusSpec : ChangeSpec := { name := "fnFunPlus", fn := fun _ => fun
  | [d1, d2] => { results := [.lit (.bool true)], args := [d1, d2] }
  | _ => none }
def fnFunPlusRow : OpenClaim := { program := "ytjhjnkeildeedaa", sum := "dac69d7173b28470a212dbc77f2db2c7f4bd02f5b79a22e902a98404f4389057", func := "loop.example/depkernel/laws.FnFunPlus", spec := "fnFunPlus", unfollowed := true, recurses := true, plainKeys := false, apart := false }
def FnFunPlusSaid : Prop := fnFunPlusRow.holds Try.pinned (OpenSpec.ofChange fnFunPlusSpec)

/-- ITS FALSE NEIGHBOUR: 'it returns false'. Refute it at one input. -/
def fnFunPlusWrong : ChangeSpec := { name := "fnFunPlus", fn := fun _ => fun
  | [d1, d2] => { results := [.lit (.bool false)], args := [d1, d2] }
  | _ => none }
def FnFunPlusWrongFalsely : Prop := fnFunPlusRow.holds Try.pinned (OpenSpec.ofChange fnFunPlusWrong)

/-- 'laws.FnFunTimes': WHATEVER THE INPUT: true; the input reads as it did. -/
def fnFunTimesSpec : ChangeSpec := { name := "fnFunTimes", fn := fun _ => fun
  | [d1, d2] => { results := [.lit (.bool true)], args := [d1, d2] }
  | _ => none }
def fnFunTimesRow : OpenClaim := { program := "ytjhjnkeildeedaa", sum := "dac69d7173b28470a212dbc77f2db2c7f4bd02f5b79a22e902a98404f4389057", func := "loop.example/depkernel/laws.FnFunTimes", spec := "fnFunTimes", unfollowed := true, recurses := true, plainKeys := false, apart := false }
def FnFunTimesSaid : Prop := fnFunTimesRow.holds Try.pinned (OpenSpec.ofChange fnFunTimesSpec)

/-- ITS FALSE NEIGHBOUR: 'it returns false'. Refute it at one input. -/
def fnFunTimesWrong : ChangeSpec := { name := "fnFunTimes", fn := fun _ => fun
  | [d1, d2] => { results := [.lit (.bool false)], args := [d1, d2] }
  | _ => none }
def FnFunTimesWrongFalsely : Prop := fnFunTimesRow.holds Try.pinned (OpenSpec.ofChange fnFunTimesWrong)

/-- 'laws.FnExactNumeral': WHATEVER THE INPUT: true; the input reads as it did. -/
def fnExactNumeralSpec : ChangeSpec := { name := "fnExactNumeral", fn := fun _ => fun
  | [d] => { results := [.lit (.bool true)], args := [d] }
  | _ => none }
def fnExactNumeralRow : OpenClaim := { program := "ytjhjnkeildeedaa", sum := "dac69d7173b28470a212dbc77f2db2c7f4bd02f5b79a22e902a98404f4389057", func := "loop.example/depkernel/laws.FnExactNumeral", spec := "fnExactNumeral", recurses := true, plainKeys := false, apart := false }
def FnExactNumeralSaid : Prop := fnExactNumeralRow.holds Try.pinned (OpenSpec.ofChange fnExactNumeralSpec)

/-- ITS FALSE NEIGHBOUR: 'it returns false'. Refute it at one input. -/
def fnExactNumeralWrong : ChangeSpec := { name := "fnExactNumeral", fn := fun _ => fun
  | [d] => { results := [.lit (.bool false)], args := [d] }
  | _ => none }
def FnExactNumeralWrongFalsely : Prop := fnExactNumeralRow.holds Try.pinned (OpenSpec.ofChange fnExactNumeralWrong)

/-- 'laws.FnNumeral': WHATEVER THE INPUT: true; the input reads as it did. -/
def fnNumeralSpec : ChangeSpec := { name := "fnNumeral", fn := fun _ => fun
  | [d] => { results := [.lit (.bool true)], args := [d] }
  | _ => none }
def fnNumeralRow : OpenClaim := { program := "ytjhjnkeildeedaa", sum := "dac69d7173b28470a212dbc77f2db2c7f4bd02f5b79a22e902a98404f4389057", func := "loop.example/depkernel/laws.FnNumeral", spec := "fnNumeral", unfollowed := true, recurses := true, plainKeys := false, apart := false }
def FnNumeralSaid : Prop := fnNumeralRow.holds Try.pinned (OpenSpec.ofChange fnNumeralSpec)

/-- ITS FALSE NEIGHBOUR: 'it returns false'. Refute it at one input. -/
def fnNumeralWrong : ChangeSpec := { name := "fnNumeral", fn := fun _ => fun
  | [d] => { results := [.lit (.bool false)], args := [d] }
  | _ => none }
def FnNumeralWrongFalsely : Prop := fnNumeralRow.holds Try.pinned (OpenSpec.ofChange fnNumeralWrong)

/-- 'laws.FnNumeralValue': WHATEVER THE INPUT: true; the input reads as it did. -/
def fnNumeralValueSpec : ChangeSpec := { name := "fnNumeralValue", fn := fun _ => fun
  | [d] => { results := [.lit (.bool true)], args := [d] }
  | _ => none }
def fnNumeralValueRow : OpenClaim := { program := "ytjhjnkeildeedaa", sum := "dac69d7173b28470a212dbc77f2db2c7f4bd02f5b79a22e902a98404f4389057", func := "loop.example/depkernel/laws.FnNumeralValue", spec := "fnNumeralValue", unfollowed := true, recurses := true, plainKeys := false, apart := false }
def FnNumeralValueSaid : Prop := fnNumeralValueRow.holds Try.pinned (OpenSpec.ofChange fnNumeralValueSpec)

/-- ITS FALSE NEIGHBOUR: 'it returns false'. Refute it at one input. -/
def fnNumeralValueWrong : ChangeSpec := { name := "fnNumeralValue", fn := fun _ => fun
  | [d] => { results := [.lit (.bool false)], args := [d] }
  | _ => none }
def FnNumeralValueWrongFalsely : Prop := fnNumeralValueRow.holds Try.pinned (OpenSpec.ofChange fnNumeralValueWrong)

/-- 'laws.FnNumeralOrder': WHATEVER THE INPUT: true; the input reads as it did. -/
def fnNumeralOrderSpec : ChangeSpec := { name := "fnNumeralOrder", fn := fun _ => fun
  | [d1, d2] => { results := [.lit (.bool true)], args := [d1, d2] }
  | _ => none }
def fnNumeralOrderRow : OpenClaim := { program := "ytjhjnkeildeedaa", sum := "dac69d7173b28470a212dbc77f2db2c7f4bd02f5b79a22e902a98404f4389057", func := "loop.example/depkernel/laws.FnNumeralOrder", spec := "fnNumeralOrder", unfollowed := true, recurses := true, plainKeys := false, apart := false }
def FnNumeralOrderSaid : Prop := fnNumeralOrderRow.holds Try.pinned (OpenSpec.ofChange fnNumeralOrderSpec)

/-- ITS FALSE NEIGHBOUR: 'it returns false'. Refute it at one input. -/
def fnNumeralOrderWrong : ChangeSpec := { name := "fnNumeralOrder", fn := fun _ => fun
  | [d1, d2] => { results := [.lit (.bool false)], args := [d1, d2] }
  | _ => none }
def FnNumeralOrderWrongFalsely : Prop := fnNumeralOrderRow.holds Try.pinned (OpenSpec.ofChange fnNumeralOrderWrong)

/- THE SECOND FORM. 'bulk': how many values and letters a reading holds, each counted each time it is reached (what is shared counts as often as it is met; a slice's spare places count too). A statement '..UptoSaid' is the law's where the arguments, and the package variables that the reading takes, are together of bulk at most 1048576: NARROWER than '..Said'. Prove '..Said' where nothing that the law and all that it calls make is longer than what came in: it says more and counts as full. Else prove '..UptoSaid'. A law counts once. -/
mutual
def uptoBulk {H : Type} : DataW H → Nat
  | .lit (.string bytes) => bytes.length + 1
  | .lit _ => 1
  | .nil => 1
  | .ptr d => uptoBulk d + 1
  | .slice elems spare => uptoBulkAll elems + uptoBulkAll spare + 1
  | .agg parts => uptoBulkAll parts + 1
  | .iface _ d => uptoBulk d + 1
  | .map entries => uptoBulkEntries entries + 1
  | .held _ => 1
def uptoBulkAll {H : Type} : List (DataW H) → Nat
  | [] => 0
  | d :: r => uptoBulk d + uptoBulkAll r
def uptoBulkEntries {H : Type} : List (Lit × DataW H) → Nat
  | [] => 0
  | x :: r => uptoBulkEntry x + uptoBulkEntries r
def uptoBulkEntry {H : Type} : Lit × DataW H → Nat
  | (.string bytes, d) => bytes.length + uptoBulk d + 1
  | (_, d) => uptoBulk d + 1
 end
def uptoSmall : (H : Type) → List (DataW H) → Bool := fun _ ds => decide (uptoBulkAll ds ≤ 1048576)
def OpenSpec.upto (s : _root_.Go.ChangeSpec) : _root_.Go.OpenSpec := { _root_.Go.OpenSpec.ofChange s with cond := some uptoSmall }

/-- 'laws.FnExactFunArity', WHERE WHAT IT READS IS OF BULK AT MOST 1048576: true; the input reads as it did. -/
def fnExactFunArityUptoRow : OpenClaim := { program := "ytjhjnkeildeedaa", sum := "dac69d7173b28470a212dbc77f2db2c7f4bd02f5b79a22e902a98404f4389057", func := "loop.example/depkernel/laws.FnExactFunArity", spec := "fnExactFunArity", unfollowed := true, recurses := true, plainKeys := false, apart := false, narrowed := true }
def FnExactFunArityUptoSaid : Prop := fnExactFunArityUptoRow.holds Try.pinned (OpenSpec.upto fnExactFunAritySpec)

/-- 'laws.FnExactFunValue', WHERE WHAT IT READS IS OF BULK AT MOST 1048576: true; the input reads as it did. -/
def fnExactFunValueUptoRow : OpenClaim := { program := "ytjhjnkeildeedaa", sum := "dac69d7173b28470a212dbc77f2db2c7f4bd02f5b79a22e902a98404f4389057", func := "loop.example/depkernel/laws.FnExactFunValue", spec := "fnExactFunValue", unfollowed := true, recurses := true, plainKeys := false, apart := false, narrowed := true }
def FnExactFunValueUptoSaid : Prop := fnExactFunValueUptoRow.holds Try.pinned (OpenSpec.upto fnExactFunValueSpec)

/-- 'laws.FnExactEqualNumbers', WHERE WHAT IT READS IS OF BULK AT MOST 1048576: true; the input reads as it did. -/
def fnExactEqualNumbersUptoRow : OpenClaim := { program := "ytjhjnkeildeedaa", sum := "dac69d7173b28470a212dbc77f2db2c7f4bd02f5b79a22e902a98404f4389057", func := "loop.example/depkernel/laws.FnExactEqualNumbers", spec := "fnExactEqualNumbers", recurses := true, plainKeys := false, apart := false, narrowed := true }
def FnExactEqualNumbersUptoSaid : Prop := fnExactEqualNumbersUptoRow.holds Try.pinned (OpenSpec.upto fnExactEqualNumbersSpec)

/-- 'laws.FnFunPlus', WHERE WHAT IT READS IS OF BULK AT MOST 1048576: true; the input reads as it did. -/
def fnFunPlusUptoRow : OpenClaim := { program := "ytjhjnkeildeedaa", sum := "dac69d7173b28470a212dbc77f2db2c7f4bd02f5b79a22e902a98404f4389057", func := "loop.example/depkernel/laws.FnFunPlus", spec := "fnFunPlus", unfollowed := true, recurses := true, plainKeys := false, apart := false, narrowed := true }
def FnFunPlusUptoSaid : Prop := fnFunPlusUptoRow.holds Try.pinned (OpenSpec.upto fnFunPlusSpec)

/-- 'laws.FnFunTimes', WHERE WHAT IT READS IS OF BULK AT MOST 1048576: true; the input reads as it did. -/
def fnFunTimesUptoRow : OpenClaim := { program := "ytjhjnkeildeedaa", sum := "dac69d7173b28470a212dbc77f2db2c7f4bd02f5b79a22e902a98404f4389057", func := "loop.example/depkernel/laws.FnFunTimes", spec := "fnFunTimes", unfollowed := true, recurses := true, plainKeys := false, apart := false, narrowed := true }
def FnFunTimesUptoSaid : Prop := fnFunTimesUptoRow.holds Try.pinned (OpenSpec.upto fnFunTimesSpec)

/-- 'laws.FnExactNumeral', WHERE WHAT IT READS IS OF BULK AT MOST 1048576: true; the input reads as it did. -/
def fnExactNumeralUptoRow : OpenClaim := { program := "ytjhjnkeildeedaa", sum := "dac69d7173b28470a212dbc77f2db2c7f4bd02f5b79a22e902a98404f4389057", func := "loop.example/depkernel/laws.FnExactNumeral", spec := "fnExactNumeral", recurses := true, plainKeys := false, apart := false, narrowed := true }
def FnExactNumeralUptoSaid : Prop := fnExactNumeralUptoRow.holds Try.pinned (OpenSpec.upto fnExactNumeralSpec)

/-- 'laws.FnNumeral', WHERE WHAT IT READS IS OF BULK AT MOST 1048576: true; the input reads as it did. -/
def fnNumeralUptoRow : OpenClaim := { program := "ytjhjnkeildeedaa", sum := "dac69d7173b28470a212dbc77f2db2c7f4bd02f5b79a22e902a98404f4389057", func := "loop.example/depkernel/laws.FnNumeral", spec := "fnNumeral", unfollowed := true, recurses := true, plainKeys := false, apart := false, narrowed := true }
def FnNumeralUptoSaid : Prop := fnNumeralUptoRow.holds Try.pinned (OpenSpec.upto fnNumeralSpec)

/-- 'laws.FnNumeralValue', WHERE WHAT IT READS IS OF BULK AT MOST 1048576: true; the input reads as it did. -/
def fnNumeralValueUptoRow : OpenClaim := { program := "ytjhjnkeildeedaa", sum := "dac69d7173b28470a212dbc77f2db2c7f4bd02f5b79a22e902a98404f4389057", func := "loop.example/depkernel/laws.FnNumeralValue", spec := "fnNumeralValue", unfollowed := true, recurses := true, plainKeys := false, apart := false, narrowed := true }
def FnNumeralValueUptoSaid : Prop := fnNumeralValueUptoRow.holds Try.pinned (OpenSpec.upto fnNumeralValueSpec)

/-- 'laws.FnNumeralOrder', WHERE WHAT IT READS IS OF BULK AT MOST 1048576: true; the input reads as it did. -/
def fnNumeralOrderUptoRow : OpenClaim := { program := "ytjhjnkeildeedaa", sum := "dac69d7173b28470a212dbc77f2db2c7f4bd02f5b79a22e902a98404f4389057", func := "loop.example/depkernel/laws.FnNumeralOrder", spec := "fnNumeralOrder", unfollowed := true, recurses := true, plainKeys := false, apart := false, narrowed := true }
def FnNumeralOrderUptoSaid : Prop := fnNumeralOrderUptoRow.holds Try.pinned (OpenSpec.upto fnNumeralOrderSpec)

end Rows
end Go.Proofs.Ytjhjnkeildeedaa
