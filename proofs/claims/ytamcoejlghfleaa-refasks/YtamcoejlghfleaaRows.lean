/-
  No cell of these rows narrows 'for every input' (looked for: loops, veiled, ifaces, maps, wideKeys, modest, calm, conditions, laid).
  DERIVED. THE GIVEN ROWS OF THIS SEAT. 5 by the template 'for every input the law returns true; each argument reads behind the call as it read before'; 0 by the template 'total and deterministic' (their statements: YtamcoejlghfleaaTotals.lean).
  GIVEN WITH THE SEED: the statements are not yours to turn. If you find one false, say at which input.
  Laid BY PROGRAM, IN A SANDBOX (cutbox-rows.mjs): the forced cells as the released guide's own fill.sh prints them over the translation b3ef5f079775f51b… (all of the seat's roots in one cut). By AI agents, Wed Nov 11 2026. No macro, syntax, notation, axiom, sorry.
-/
import Derived.Test.YtamcoejlghfleaaChecked
import GoSem.Claim
import GoSem.ClaimJoined
import GoSem.ClaimMapViews
import Derived.JoinedTies
import Derived.KernelRfl
namespace Go.Proofs.Ytamcoejlghfleaa
/- THE CELL 'sum', in the pinned program and in every row, IS THE sha256 OF THE DUMP (.gsa) THAT YtamcoejlghfleaaProg.lean LOADS. Nothing in Lean hashes anything: it is a label: what it is worth is what the hold of that sum in a sandbox is worth. -/
noncomputable def Try.pinned : Pinned := { name := "ytamcoejlghfleaa", sum := "b3ef5f079775f51bf7b2bed37f49cf578167b874cb9f54096e0b403d66a2cfe0", checked := Try.checked }
namespace Rows
def none {H : Type} : Left H := { results := [], args := [] }

/-- 'gloaminglaw13.RefOnce': WHATEVER THE INPUT: true; the input reads as it did. -/
def refOnceSpec : ChangeSpec := { name := "refOnce", fn := fun _ => fun
  | [d1, d2, d3] => { results := [.lit (.bool true)], args := [d1, d2, d3] }
  | _ => none }
def refOnceRow : OpenClaim := { program := "ytamcoejlghfleaa", sum := "b3ef5f079775f51bf7b2bed37f49cf578167b874cb9f54096e0b403d66a2cfe0", func := "gloaming/gloaminglaw13.RefOnce", spec := "refOnce", apart := false }
def RefOnceSaid : Prop := refOnceRow.holds Try.pinned (OpenSpec.ofChange refOnceSpec)

/-- ITS FALSE NEIGHBOUR: 'it returns false'. Refute it at one input. -/
def refOnceWrong : ChangeSpec := { name := "refOnce", fn := fun _ => fun
  | [d1, d2, d3] => { results := [.lit (.bool false)], args := [d1, d2, d3] }
  | _ => none }
def RefOnceWrongFalsely : Prop := refOnceRow.holds Try.pinned (OpenSpec.ofChange refOnceWrong)

/-- 'gloaminglaw13.RefAsks': WHATEVER THE INPUT: true; the input reads as it did. -/
def refAsksSpec : ChangeSpec := { name := "refAsks", fn := fun _ => fun
  | [d1, d2] => { results := [.lit (.bool true)], args := [d1, d2] }
  | _ => none }
def refAsksRow : OpenClaim := { program := "ytamcoejlghfleaa", sum := "b3ef5f079775f51bf7b2bed37f49cf578167b874cb9f54096e0b403d66a2cfe0", func := "gloaming/gloaminglaw13.RefAsks", spec := "refAsks", apart := false }
def RefAsksSaid : Prop := refAsksRow.holds Try.pinned (OpenSpec.ofChange refAsksSpec)

/-- ITS FALSE NEIGHBOUR: 'it returns false'. Refute it at one input. -/
def refAsksWrong : ChangeSpec := { name := "refAsks", fn := fun _ => fun
  | [d1, d2] => { results := [.lit (.bool false)], args := [d1, d2] }
  | _ => none }
def RefAsksWrongFalsely : Prop := refAsksRow.holds Try.pinned (OpenSpec.ofChange refAsksWrong)

/-- 'gloaminglaw13.RefMakes': WHATEVER THE INPUT: true; the input reads as it did. -/
def refMakesSpec : ChangeSpec := { name := "refMakes", fn := fun _ => fun
  | [d1, d2] => { results := [.lit (.bool true)], args := [d1, d2] }
  | _ => none }
def refMakesRow : OpenClaim := { program := "ytamcoejlghfleaa", sum := "b3ef5f079775f51bf7b2bed37f49cf578167b874cb9f54096e0b403d66a2cfe0", func := "gloaming/gloaminglaw13.RefMakes", spec := "refMakes", apart := false }
def RefMakesSaid : Prop := refMakesRow.holds Try.pinned (OpenSpec.ofChange refMakesSpec)

/-- ITS FALSE NEIGHBOUR: 'it returns false'. Refute it at one input. -/
def refMakesWrong : ChangeSpec := { name := "refMakes", fn := fun _ => fun
  | [d1, d2] => { results := [.lit (.bool false)], args := [d1, d2] }
  | _ => none }
def RefMakesWrongFalsely : Prop := refMakesRow.holds Try.pinned (OpenSpec.ofChange refMakesWrong)

/-- 'gloaminglaw13.RefClears': WHATEVER THE INPUT: true; the input reads as it did. -/
def refClearsSpec : ChangeSpec := { name := "refClears", fn := fun _ => fun
  | [d1, d2] => { results := [.lit (.bool true)], args := [d1, d2] }
  | _ => none }
def refClearsRow : OpenClaim := { program := "ytamcoejlghfleaa", sum := "b3ef5f079775f51bf7b2bed37f49cf578167b874cb9f54096e0b403d66a2cfe0", func := "gloaming/gloaminglaw13.RefClears", spec := "refClears", apart := false }
def RefClearsSaid : Prop := refClearsRow.holds Try.pinned (OpenSpec.ofChange refClearsSpec)

/-- ITS FALSE NEIGHBOUR: 'it returns false'. Refute it at one input. -/
def refClearsWrong : ChangeSpec := { name := "refClears", fn := fun _ => fun
  | [d1, d2] => { results := [.lit (.bool false)], args := [d1, d2] }
  | _ => none }
def RefClearsWrongFalsely : Prop := refClearsRow.holds Try.pinned (OpenSpec.ofChange refClearsWrong)

/-- 'gloaminglaw13.RefKeeps': WHATEVER THE INPUT: true; the input reads as it did. -/
def refKeepsSpec : ChangeSpec := { name := "refKeeps", fn := fun _ => fun
  | [d1, d2, d3] => { results := [.lit (.bool true)], args := [d1, d2, d3] }
  | _ => none }
def refKeepsRow : OpenClaim := { program := "ytamcoejlghfleaa", sum := "b3ef5f079775f51bf7b2bed37f49cf578167b874cb9f54096e0b403d66a2cfe0", func := "gloaming/gloaminglaw13.RefKeeps", spec := "refKeeps", apart := false }
def RefKeepsSaid : Prop := refKeepsRow.holds Try.pinned (OpenSpec.ofChange refKeepsSpec)

/-- ITS FALSE NEIGHBOUR: 'it returns false'. Refute it at one input. -/
def refKeepsWrong : ChangeSpec := { name := "refKeeps", fn := fun _ => fun
  | [d1, d2, d3] => { results := [.lit (.bool false)], args := [d1, d2, d3] }
  | _ => none }
def RefKeepsWrongFalsely : Prop := refKeepsRow.holds Try.pinned (OpenSpec.ofChange refKeepsWrong)

/- THE SECOND FORM. 'bulk': how many values and letters a reading holds, each counted each time it is reached (what is shared counts as often as it is met; a slice's spare places count too). A statement '..UptoSaid' is the law's where the arguments, and the package variables that the reading takes, are together of bulk at most 1048576: NARROWER than '..Said'. Prove '..Said' where nothing that the law and all that it calls make is longer than what came in: it says more and counts as full. Else prove '..UptoSaid'. A law counts once. -/
mutual
def uptoBulk {H : Type} : DataW H → Nat
  | .lit (.string bytes) => bytes.length + 1
  | .lit _ => 1
  | .nil => 1
  | .ptr d => uptoBulk d + 1
  | .slice elems spare => uptoBulkAll elems + uptoBulkAll spare + 1
  | .agg parts => uptoBulkAll parts + 1
  | .iface _ d => uptoBulk d + 1
  | .map entries => uptoBulkEntries entries + 1
  | .held _ => 1
def uptoBulkAll {H : Type} : List (DataW H) → Nat
  | [] => 0
  | d :: r => uptoBulk d + uptoBulkAll r
def uptoBulkEntries {H : Type} : List (Lit × DataW H) → Nat
  | [] => 0
  | x :: r => uptoBulkEntry x + uptoBulkEntries r
def uptoBulkEntry {H : Type} : Lit × DataW H → Nat
  | (.string bytes, d) => bytes.length + uptoBulk d + 1
  | (_, d) => uptoBulk d + 1
 end
def uptoSmall : (H : Type) → List (DataW H) → Bool := fun _ ds => decide (uptoBulkAll ds ≤ 1048576)
def OpenSpec.upto (s : _root_.Go.ChangeSpec) : _root_.Go.OpenSpec := { _root_.Go.OpenSpec.ofChange s with cond := some uptoSmall }

/-- 'gloaminglaw13.RefOnce', WHERE WHAT IT READS IS OF BULK AT MOST 1048576: true; the input reads as it did. -/
def refOnceUptoRow : OpenClaim := { program := "ytamcoejlghfleaa", sum := "b3ef5f079775f51bf7b2bed37f49cf578167b874cb9f54096e0b403d66a2cfe0", func := "gloaming/gloaminglaw13.RefOnce", spec := "refOnce", apart := false, narrowed := true }
def RefOnceUptoSaid : Prop := refOnceUptoRow.holds Try.pinned (OpenSpec.upto refOnceSpec)

/-- 'gloaminglaw13.RefAsks', WHERE WHAT IT READS IS OF BULK AT MOST 1048576: true; the input reads as it did. -/
def refAsksUptoRow : OpenClaim := { program := "ytamcoejlghfleaa", sum := "b3ef5f079775f51bf7b2bed37f49cf578167b874cb9f54096e0b403d66a2cfe0", func := "gloaming/gloaminglaw13.RefAsks", spec := "refAsks", apart := false, narrowed := true }
def RefAsksUptoSaid : Prop := refAsksUptoRow.holds Try.pinned (OpenSpec.upto refAsksSpec)

/-- 'gloaminglaw13.RefMakes', WHERE WHAT IT READS IS OF BULK AT MOST 1048576: true; the input reads as it did. -/
def refMakesUptoRow : OpenClaim := { program := "ytamcoejlghfleaa", sum := "b3ef5f079775f51bf7b2bed37f49cf578167b874cb9f54096e0b403d66a2cfe0", func := "gloaming/gloaminglaw13.RefMakes", spec := "refMakes", apart := false, narrowed := true }
def RefMakesUptoSaid : Prop := refMakesUptoRow.holds Try.pinned (OpenSpec.upto refMakesSpec)

/-- 'gloaminglaw13.RefClears', WHERE WHAT IT READS IS OF BULK AT MOST 1048576: true; the input reads as it did. -/
def refClearsUptoRow : OpenClaim := { program := "ytamcoejlghfleaa", sum := "b3ef5f079775f51bf7b2bed37f49cf578167b874cb9f54096e0b403d66a2cfe0", func := "gloaming/gloaminglaw13.RefClears", spec := "refClears", apart := false, narrowed := true }
def RefClearsUptoSaid : Prop := refClearsUptoRow.holds Try.pinned (OpenSpec.upto refClearsSpec)

/-- 'gloaminglaw13.RefKeeps', WHERE WHAT IT READS IS OF BULK AT MOST 1048576: true; the input reads as it did. -/
def refKeepsUptoRow : OpenClaim := { program := "ytamcoejlghfleaa", sum := "b3ef5f079775f51bf7b2bed37f49cf578167b874cb9f54096e0b403d66a2cfe0", func := "gloaming/gloaminglaw13.RefKeeps", spec := "refKeeps", apart := false, narrowed := true }
def RefKeepsUptoSaid : Prop := refKeepsUptoRow.holds Try.pinned (OpenSpec.upto refKeepsSpec)

end Rows
end Go.Proofs.Ytamcoejlghfleaa
