/-
  No cell of these rows narrows 'for every input' (looked for: loops, veiled, ifaces, maps, wideKeys, modest, calm, conditions, laid).
  DERIVED. THE GIVEN ROWS OF THIS SEAT. 4 by the template 'for every input the law returns true; each argument reads behind the call as it read before'; 0 by the template 'total and deterministic' (their statements: YtmnmgibhjjdkaaaTotals.lean).
  GIVEN WITH THE SEED: the statements are not yours to turn. If you find one false, say at which input.
  Laid BY PROGRAM, IN A SANDBOX (cutbox-rows.mjs): the forced cells as the released guide's own fill.sh prints them over the translation d09fd1b82a181920… (all of the seat's roots in one cut). By AI agents, Wed Nov 11 2026. No macro, syntax, notation, axiom, sorry.
-/
import Derived.Test.YtmnmgibhjjdkaaaChecked
import GoSem.Claim
import GoSem.ClaimJoined
import GoSem.ClaimMapViews
import Derived.JoinedTies
import Derived.KernelRfl
namespace Go.Proofs.Ytmnmgibhjjdkaaa
/- THE CELL 'sum', in the pinned program and in every row, IS THE sha256 OF THE DUMP (.gsa) THAT YtmnmgibhjjdkaaaProg.lean LOADS. Nothing in Lean hashes anything: it is a label: what it is worth is what the hold of that sum in a sandbox is worth. -/
noncomputable def Try.pinned : Pinned := { name := "ytmnmgibhjjdkaaa", sum := "d09fd1b82a18192045696eeb8d05c66569024c7a98f03764ace4cc0cbfec1187", checked := Try.checked }
namespace Rows
def none {H : Type} : Left H := { results := [], args := [] }

/-- 'gloaminglaw5.BlockRuns': WHATEVER THE INPUT: true; the input reads as it did. -/
def blockRunsSpec : ChangeSpec := { name := "blockRuns", fn := fun _ => fun
  | [d1, d2] => { results := [.lit (.bool true)], args := [d1, d2] }
  | _ => none }
def blockRunsRow : OpenClaim := { program := "ytmnmgibhjjdkaaa", sum := "d09fd1b82a18192045696eeb8d05c66569024c7a98f03764ace4cc0cbfec1187", func := "gloaming/gloaminglaw5.BlockRuns", spec := "blockRuns", apart := false }
def BlockRunsSaid : Prop := blockRunsRow.holds Try.pinned (OpenSpec.ofChange blockRunsSpec)

/-- ITS FALSE NEIGHBOUR: 'it returns false'. Refute it at one input. -/
def blockRunsWrong : ChangeSpec := { name := "blockRuns", fn := fun _ => fun
  | [d1, d2] => { results := [.lit (.bool false)], args := [d1, d2] }
  | _ => none }
def BlockRunsWrongFalsely : Prop := blockRunsRow.holds Try.pinned (OpenSpec.ofChange blockRunsWrong)

/-- 'gloaminglaw5.BlockFills': WHATEVER THE INPUT: true; the input reads as it did. -/
def blockFillsSpec : ChangeSpec := { name := "blockFills", fn := fun _ => fun
  | [d1, d2, d3] => { results := [.lit (.bool true)], args := [d1, d2, d3] }
  | _ => none }
def blockFillsRow : OpenClaim := { program := "ytmnmgibhjjdkaaa", sum := "d09fd1b82a18192045696eeb8d05c66569024c7a98f03764ace4cc0cbfec1187", func := "gloaming/gloaminglaw5.BlockFills", spec := "blockFills", apart := false }
def BlockFillsSaid : Prop := blockFillsRow.holds Try.pinned (OpenSpec.ofChange blockFillsSpec)

/-- ITS FALSE NEIGHBOUR: 'it returns false'. Refute it at one input. -/
def blockFillsWrong : ChangeSpec := { name := "blockFills", fn := fun _ => fun
  | [d1, d2, d3] => { results := [.lit (.bool false)], args := [d1, d2, d3] }
  | _ => none }
def BlockFillsWrongFalsely : Prop := blockFillsRow.holds Try.pinned (OpenSpec.ofChange blockFillsWrong)

/-- 'gloaminglaw5.BlockHoles': WHATEVER THE INPUT: true; the input reads as it did. -/
def blockHolesSpec : ChangeSpec := { name := "blockHoles", fn := fun _ => fun
  | [d1, d2] => { results := [.lit (.bool true)], args := [d1, d2] }
  | _ => none }
def blockHolesRow : OpenClaim := { program := "ytmnmgibhjjdkaaa", sum := "d09fd1b82a18192045696eeb8d05c66569024c7a98f03764ace4cc0cbfec1187", func := "gloaming/gloaminglaw5.BlockHoles", spec := "blockHoles", apart := false }
def BlockHolesSaid : Prop := blockHolesRow.holds Try.pinned (OpenSpec.ofChange blockHolesSpec)

/-- ITS FALSE NEIGHBOUR: 'it returns false'. Refute it at one input. -/
def blockHolesWrong : ChangeSpec := { name := "blockHoles", fn := fun _ => fun
  | [d1, d2] => { results := [.lit (.bool false)], args := [d1, d2] }
  | _ => none }
def BlockHolesWrongFalsely : Prop := blockHolesRow.holds Try.pinned (OpenSpec.ofChange blockHolesWrong)

/-- 'gloaminglaw5.BlockRefuses': WHATEVER THE INPUT: true; the input reads as it did. -/
def blockRefusesSpec : ChangeSpec := { name := "blockRefuses", fn := fun _ => fun
  | [d1, d2] => { results := [.lit (.bool true)], args := [d1, d2] }
  | _ => none }
def blockRefusesRow : OpenClaim := { program := "ytmnmgibhjjdkaaa", sum := "d09fd1b82a18192045696eeb8d05c66569024c7a98f03764ace4cc0cbfec1187", func := "gloaming/gloaminglaw5.BlockRefuses", spec := "blockRefuses", apart := false }
def BlockRefusesSaid : Prop := blockRefusesRow.holds Try.pinned (OpenSpec.ofChange blockRefusesSpec)

/-- ITS FALSE NEIGHBOUR: 'it returns false'. Refute it at one input. -/
def blockRefusesWrong : ChangeSpec := { name := "blockRefuses", fn := fun _ => fun
  | [d1, d2] => { results := [.lit (.bool false)], args := [d1, d2] }
  | _ => none }
def BlockRefusesWrongFalsely : Prop := blockRefusesRow.holds Try.pinned (OpenSpec.ofChange blockRefusesWrong)

/- THE SECOND FORM. 'bulk': how many values and letters a reading holds, each counted each time it is reached (what is shared counts as often as it is met; a slice's spare places count too). A statement '..UptoSaid' is the law's where the arguments, and the package variables that the reading takes, are together of bulk at most 1048576: NARROWER than '..Said'. Prove '..Said' where nothing that the law and all that it calls make is longer than what came in: it says more and counts as full. Else prove '..UptoSaid'. A law counts once. -/
mutual
def uptoBulk {H : Type} : DataW H → Nat
  | .lit (.string bytes) => bytes.length + 1
  | .lit _ => 1
  | .nil => 1
  | .ptr d => uptoBulk d + 1
  | .slice elems spare => uptoBulkAll elems + uptoBulkAll spare + 1
  | .agg parts => uptoBulkAll parts + 1
  | .iface _ d => uptoBulk d + 1
  | .map entries => uptoBulkEntries entries + 1
  | .held _ => 1
def uptoBulkAll {H : Type} : List (DataW H) → Nat
  | [] => 0
  | d :: r => uptoBulk d + uptoBulkAll r
def uptoBulkEntries {H : Type} : List (Lit × DataW H) → Nat
  | [] => 0
  | x :: r => uptoBulkEntry x + uptoBulkEntries r
def uptoBulkEntry {H : Type} : Lit × DataW H → Nat
  | (.string bytes, d) => bytes.length + uptoBulk d + 1
  | (_, d) => uptoBulk d + 1
 end
def uptoSmall : (H : Type) → List (DataW H) → Bool := fun _ ds => decide (uptoBulkAll ds ≤ 1048576)
def OpenSpec.upto (s : _root_.Go.ChangeSpec) : _root_.Go.OpenSpec := { _root_.Go.OpenSpec.ofChange s with cond := some uptoSmall }

/-- 'gloaminglaw5.BlockRuns', WHERE WHAT IT READS IS OF BULK AT MOST 1048576: true; the input reads as it did. -/
def blockRunsUptoRow : OpenClaim := { program := "ytmnmgibhjjdkaaa", sum := "d09fd1b82a18192045696eeb8d05c66569024c7a98f03764ace4cc0cbfec1187", func := "gloaming/gloaminglaw5.BlockRuns", spec := "blockRuns", apart := false, narrowed := true }
def BlockRunsUptoSaid : Prop := blockRunsUptoRow.holds Try.pinned (OpenSpec.upto blockRunsSpec)

/-- 'gloaminglaw5.BlockFills', WHERE WHAT IT READS IS OF BULK AT MOST 1048576: true; the input reads as it did. -/
def blockFillsUptoRow : OpenClaim := { program := "ytmnmgibhjjdkaaa", sum := "d09fd1b82a18192045696eeb8d05c66569024c7a98f03764ace4cc0cbfec1187", func := "gloaming/gloaminglaw5.BlockFills", spec := "blockFills", apart := false, narrowed := true }
def BlockFillsUptoSaid : Prop := blockFillsUptoRow.holds Try.pinned (OpenSpec.upto blockFillsSpec)

/-- 'gloaminglaw5.BlockHoles', WHERE WHAT IT READS IS OF BULK AT MOST 1048576: true; the input reads as it did. -/
def blockHolesUptoRow : OpenClaim := { program := "ytmnmgibhjjdkaaa", sum := "d09fd1b82a18192045696eeb8d05c66569024c7a98f03764ace4cc0cbfec1187", func := "gloaming/gloaminglaw5.BlockHoles", spec := "blockHoles", apart := false, narrowed := true }
def BlockHolesUptoSaid : Prop := blockHolesUptoRow.holds Try.pinned (OpenSpec.upto blockHolesSpec)

/-- 'gloaminglaw5.BlockRefuses', WHERE WHAT IT READS IS OF BULK AT MOST 1048576: true; the input reads as it did. -/
def blockRefusesUptoRow : OpenClaim := { program := "ytmnmgibhjjdkaaa", sum := "d09fd1b82a18192045696eeb8d05c66569024c7a98f03764ace4cc0cbfec1187", func := "gloaming/gloaminglaw5.BlockRefuses", spec := "blockRefuses", apart := false, narrowed := true }
def BlockRefusesUptoSaid : Prop := blockRefusesUptoRow.holds Try.pinned (OpenSpec.upto blockRefusesSpec)

end Rows
end Go.Proofs.Ytmnmgibhjjdkaaa
