/-
  No cell of these rows narrows 'for every input' (looked for: loops, veiled, ifaces, maps, wideKeys, modest, calm, conditions, laid).
  DERIVED. THE GIVEN ROWS OF THIS SEAT. 6 by the template 'for every input the law returns true; each argument reads behind the call as it read before'; 0 by the template 'total and deterministic' (their statements: YtfmfnmpibnddmaaTotals.lean).
  GIVEN WITH THE SEED: the statements are not yours to turn. If you find one false, say at which input.
  Laid BY PROGRAM, IN A SANDBOX (cutbox-rows.mjs): the forced cells as the released guide's own fill.sh prints them over the translation 15d19eab9b7c9fdf… (all of the seat's roots in one cut). By AI agents, Wed Nov 11 2026. No macro, syntax, notation, axiom, sorry.
-/
import Derived.Test.YtfmfnmpibnddmaaChecked
import GoSem.Claim
import GoSem.ClaimJoined
import GoSem.ClaimMapViews
import Derived.JoinedTies
import Derived.KernelRfl
namespace Go.Proofs.Ytfmfnmpibnddmaa
/- THE CELL 'sum', in the pinned program and in every row, IS THE sha256 OF THE DUMP (.gsa) THAT YtfmfnmpibnddmaaProg.lean LOADS. Nothing in Lean hashes anything: it is a label: what it is worth is what the hold of that sum in a sandbox is worth. -/
noncomputable def Try.pinned : Pinned := { name := "ytfmfnmpibnddmaa", sum := "15d19eab9b7c9fdf30b31e14c7eeeecabc724a58157425a594118c033b29897d", checked := Try.checked }
namespace Rows
def none {H : Type} : Left H := { results := [], args := [] }

/-- 'gloaminglaw6.SpaceRuns': WHATEVER THE INPUT: true; the input reads as it did. -/
def spaceRunsSpec : ChangeSpec := { name := "spaceRuns", fn := fun _ => fun
  | [d1, d2] => { results := [.lit (.bool true)], args := [d1, d2] }
  | _ => none }
def spaceRunsRow : OpenClaim := { program := "ytfmfnmpibnddmaa", sum := "15d19eab9b7c9fdf30b31e14c7eeeecabc724a58157425a594118c033b29897d", func := "gloaming/gloaminglaw6.SpaceRuns", spec := "spaceRuns", apart := false }
def SpaceRunsSaid : Prop := spaceRunsRow.holds Try.pinned (OpenSpec.ofChange spaceRunsSpec)

/-- ITS FALSE NEIGHBOUR: 'it returns false'. Refute it at one input. -/
def spaceRunsWrong : ChangeSpec := { name := "spaceRuns", fn := fun _ => fun
  | [d1, d2] => { results := [.lit (.bool false)], args := [d1, d2] }
  | _ => none }
def SpaceRunsWrongFalsely : Prop := spaceRunsRow.holds Try.pinned (OpenSpec.ofChange spaceRunsWrong)

/-- 'gloaminglaw6.SpaceApart': WHATEVER THE INPUT: true; the input reads as it did. -/
def spaceApartSpec : ChangeSpec := { name := "spaceApart", fn := fun _ => fun
  | [d1, d2] => { results := [.lit (.bool true)], args := [d1, d2] }
  | _ => none }
def spaceApartRow : OpenClaim := { program := "ytfmfnmpibnddmaa", sum := "15d19eab9b7c9fdf30b31e14c7eeeecabc724a58157425a594118c033b29897d", func := "gloaming/gloaminglaw6.SpaceApart", spec := "spaceApart", apart := false }
def SpaceApartSaid : Prop := spaceApartRow.holds Try.pinned (OpenSpec.ofChange spaceApartSpec)

/-- ITS FALSE NEIGHBOUR: 'it returns false'. Refute it at one input. -/
def spaceApartWrong : ChangeSpec := { name := "spaceApart", fn := fun _ => fun
  | [d1, d2] => { results := [.lit (.bool false)], args := [d1, d2] }
  | _ => none }
def SpaceApartWrongFalsely : Prop := spaceApartRow.holds Try.pinned (OpenSpec.ofChange spaceApartWrong)

/-- 'gloaminglaw6.SpaceZeros': WHATEVER THE INPUT: true; the input reads as it did. -/
def spaceZerosSpec : ChangeSpec := { name := "spaceZeros", fn := fun _ => fun
  | [d1, d2, d3] => { results := [.lit (.bool true)], args := [d1, d2, d3] }
  | _ => none }
def spaceZerosRow : OpenClaim := { program := "ytfmfnmpibnddmaa", sum := "15d19eab9b7c9fdf30b31e14c7eeeecabc724a58157425a594118c033b29897d", func := "gloaming/gloaminglaw6.SpaceZeros", spec := "spaceZeros", apart := false }
def SpaceZerosSaid : Prop := spaceZerosRow.holds Try.pinned (OpenSpec.ofChange spaceZerosSpec)

/-- ITS FALSE NEIGHBOUR: 'it returns false'. Refute it at one input. -/
def spaceZerosWrong : ChangeSpec := { name := "spaceZeros", fn := fun _ => fun
  | [d1, d2, d3] => { results := [.lit (.bool false)], args := [d1, d2, d3] }
  | _ => none }
def SpaceZerosWrongFalsely : Prop := spaceZerosRow.holds Try.pinned (OpenSpec.ofChange spaceZerosWrong)

/-- 'gloaminglaw6.SpaceOrder': WHATEVER THE INPUT: true; the input reads as it did. -/
def spaceOrderSpec : ChangeSpec := { name := "spaceOrder", fn := fun _ => fun
  | [d1, d2] => { results := [.lit (.bool true)], args := [d1, d2] }
  | _ => none }
def spaceOrderRow : OpenClaim := { program := "ytfmfnmpibnddmaa", sum := "15d19eab9b7c9fdf30b31e14c7eeeecabc724a58157425a594118c033b29897d", func := "gloaming/gloaminglaw6.SpaceOrder", spec := "spaceOrder", apart := false }
def SpaceOrderSaid : Prop := spaceOrderRow.holds Try.pinned (OpenSpec.ofChange spaceOrderSpec)

/-- ITS FALSE NEIGHBOUR: 'it returns false'. Refute it at one input. -/
def spaceOrderWrong : ChangeSpec := { name := "spaceOrder", fn := fun _ => fun
  | [d1, d2] => { results := [.lit (.bool false)], args := [d1, d2] }
  | _ => none }
def SpaceOrderWrongFalsely : Prop := spaceOrderRow.holds Try.pinned (OpenSpec.ofChange spaceOrderWrong)

/-- 'gloaminglaw6.SpaceLarge': WHATEVER THE INPUT: true; the input reads as it did. -/
def spaceLargeSpec : ChangeSpec := { name := "spaceLarge", fn := fun _ => fun
  | [d1, d2, d3] => { results := [.lit (.bool true)], args := [d1, d2, d3] }
  | _ => none }
def spaceLargeRow : OpenClaim := { program := "ytfmfnmpibnddmaa", sum := "15d19eab9b7c9fdf30b31e14c7eeeecabc724a58157425a594118c033b29897d", func := "gloaming/gloaminglaw6.SpaceLarge", spec := "spaceLarge", apart := false }
def SpaceLargeSaid : Prop := spaceLargeRow.holds Try.pinned (OpenSpec.ofChange spaceLargeSpec)

/-- ITS FALSE NEIGHBOUR: 'it returns false'. Refute it at one input. -/
def spaceLargeWrong : ChangeSpec := { name := "spaceLarge", fn := fun _ => fun
  | [d1, d2, d3] => { results := [.lit (.bool false)], args := [d1, d2, d3] }
  | _ => none }
def SpaceLargeWrongFalsely : Prop := spaceLargeRow.holds Try.pinned (OpenSpec.ofChange spaceLargeWrong)

/-- 'gloaminglaw6.SpaceGives': WHATEVER THE INPUT: true; the input reads as it did. -/
def spaceGivesSpec : ChangeSpec := { name := "spaceGives", fn := fun _ => fun
  | [d1, d2] => { results := [.lit (.bool true)], args := [d1, d2] }
  | _ => none }
def spaceGivesRow : OpenClaim := { program := "ytfmfnmpibnddmaa", sum := "15d19eab9b7c9fdf30b31e14c7eeeecabc724a58157425a594118c033b29897d", func := "gloaming/gloaminglaw6.SpaceGives", spec := "spaceGives", apart := false }
def SpaceGivesSaid : Prop := spaceGivesRow.holds Try.pinned (OpenSpec.ofChange spaceGivesSpec)

/-- ITS FALSE NEIGHBOUR: 'it returns false'. Refute it at one input. -/
def spaceGivesWrong : ChangeSpec := { name := "spaceGives", fn := fun _ => fun
  | [d1, d2] => { results := [.lit (.bool false)], args := [d1, d2] }
  | _ => none }
def SpaceGivesWrongFalsely : Prop := spaceGivesRow.holds Try.pinned (OpenSpec.ofChange spaceGivesWrong)

/- THE SECOND FORM. 'bulk': how many values and letters a reading holds, each counted each time it is reached (what is shared counts as often as it is met; a slice's spare places count too). A statement '..UptoSaid' is the law's where the arguments, and the package variables that the reading takes, are together of bulk at most 1048576: NARROWER than '..Said'. Prove '..Said' where nothing that the law and all that it calls make is longer than what came in: it says more and counts as full. Else prove '..UptoSaid'. A law counts once. -/
mutual
def uptoBulk {H : Type} : DataW H → Nat
  | .lit (.string bytes) => bytes.length + 1
  | .lit _ => 1
  | .nil => 1
  | .ptr d => uptoBulk d + 1
  | .slice elems spare => uptoBulkAll elems + uptoBulkAll spare + 1
  | .agg parts => uptoBulkAll parts + 1
  | .iface _ d => uptoBulk d + 1
  | .map entries => uptoBulkEntries entries + 1
  | .held _ => 1
def uptoBulkAll {H : Type} : List (DataW H) → Nat
  | [] => 0
  | d :: r => uptoBulk d + uptoBulkAll r
def uptoBulkEntries {H : Type} : List (Lit × DataW H) → Nat
  | [] => 0
  | x :: r => uptoBulkEntry x + uptoBulkEntries r
def uptoBulkEntry {H : Type} : Lit × DataW H → Nat
  | (.string bytes, d) => bytes.length + uptoBulk d + 1
  | (_, d) => uptoBulk d + 1
 end
def uptoSmall : (H : Type) → List (DataW H) → Bool := fun _ ds => decide (uptoBulkAll ds ≤ 1048576)
def OpenSpec.upto (s : _root_.Go.ChangeSpec) : _root_.Go.OpenSpec := { _root_.Go.OpenSpec.ofChange s with cond := some uptoSmall }

/-- 'gloaminglaw6.SpaceRuns', WHERE WHAT IT READS IS OF BULK AT MOST 1048576: true; the input reads as it did. -/
def spaceRunsUptoRow : OpenClaim := { program := "ytfmfnmpibnddmaa", sum := "15d19eab9b7c9fdf30b31e14c7eeeecabc724a58157425a594118c033b29897d", func := "gloaming/gloaminglaw6.SpaceRuns", spec := "spaceRuns", apart := false, narrowed := true }
def SpaceRunsUptoSaid : Prop := spaceRunsUptoRow.holds Try.pinned (OpenSpec.upto spaceRunsSpec)

/-- 'gloaminglaw6.SpaceApart', WHERE WHAT IT READS IS OF BULK AT MOST 1048576: true; the input reads as it did. -/
def spaceApartUptoRow : OpenClaim := { program := "ytfmfnmpibnddmaa", sum := "15d19eab9b7c9fdf30b31e14c7eeeecabc724a58157425a594118c033b29897d", func := "gloaming/gloaminglaw6.SpaceApart", spec := "spaceApart", apart := false, narrowed := true }
def SpaceApartUptoSaid : Prop := spaceApartUptoRow.holds Try.pinned (OpenSpec.upto spaceApartSpec)

/-- 'gloaminglaw6.SpaceZeros', WHERE WHAT IT READS IS OF BULK AT MOST 1048576: true; the input reads as it did. -/
def spaceZerosUptoRow : OpenClaim := { program := "ytfmfnmpibnddmaa", sum := "15d19eab9b7c9fdf30b31e14c7eeeecabc724a58157425a594118c033b29897d", func := "gloaming/gloaminglaw6.SpaceZeros", spec := "spaceZeros", apart := false, narrowed := true }
def SpaceZerosUptoSaid : Prop := spaceZerosUptoRow.holds Try.pinned (OpenSpec.upto spaceZerosSpec)

/-- 'gloaminglaw6.SpaceOrder', WHERE WHAT IT READS IS OF BULK AT MOST 1048576: true; the input reads as it did. -/
def spaceOrderUptoRow : OpenClaim := { program := "ytfmfnmpibnddmaa", sum := "15d19eab9b7c9fdf30b31e14c7eeeecabc724a58157425a594118c033b29897d", func := "gloaming/gloaminglaw6.SpaceOrder", spec := "spaceOrder", apart := false, narrowed := true }
def SpaceOrderUptoSaid : Prop := spaceOrderUptoRow.holds Try.pinned (OpenSpec.upto spaceOrderSpec)

/-- 'gloaminglaw6.SpaceLarge', WHERE WHAT IT READS IS OF BULK AT MOST 1048576: true; the input reads as it did. -/
def spaceLargeUptoRow : OpenClaim := { program := "ytfmfnmpibnddmaa", sum := "15d19eab9b7c9fdf30b31e14c7eeeecabc724a58157425a594118c033b29897d", func := "gloaming/gloaminglaw6.SpaceLarge", spec := "spaceLarge", apart := false, narrowed := true }
def SpaceLargeUptoSaid : Prop := spaceLargeUptoRow.holds Try.pinned (OpenSpec.upto spaceLargeSpec)

/-- 'gloaminglaw6.SpaceGives', WHERE WHAT IT READS IS OF BULK AT MOST 1048576: true; the input reads as it did. -/
def spaceGivesUptoRow : OpenClaim := { program := "ytfmfnmpibnddmaa", sum := "15d19eab9b7c9fdf30b31e14c7eeeecabc724a58157425a594118c033b29897d", func := "gloaming/gloaminglaw6.SpaceGives", spec := "spaceGives", apart := false, narrowed := true }
def SpaceGivesUptoSaid : Prop := spaceGivesUptoRow.holds Try.pinned (OpenSpec.upto spaceGivesSpec)

end Rows
end Go.Proofs.Ytfmfnmpibnddmaa
