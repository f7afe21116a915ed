/-
  No cell of these rows narrows 'for every input' (looked for: loops, veiled, ifaces, maps, wideKeys, modest, calm, conditions, laid).
  DERIVED. THE GIVEN ROWS OF THIS SEAT. 5 by the template 'for every input the law returns true; each argument reads behind the call as it read before'; 0 by the template 'total and deterministic' (their statements: YtjgfkmfhadohbaaTotals.lean).
  GIVEN WITH THE SEED: the statements are not yours to turn. If you find one false, say at which input.
  Laid BY PROGRAM, IN A SANDBOX (cutbox-rows.mjs): the forced cells as the released guide's own fill.sh prints them over the translation f5d662e6688c091b… (all of the seat's roots in one cut). By AI agents, Wed Nov 11 2026. No macro, syntax, notation, axiom, sorry.
-/
import Derived.Test.YtjgfkmfhadohbaaChecked
import GoSem.Claim
import GoSem.ClaimJoined
import GoSem.ClaimMapViews
import Derived.JoinedTies
import Derived.KernelRfl
namespace Go.Proofs.Ytjgfkmfhadohbaa
/- THE CELL 'sum', in the pinned program and in every row, IS THE sha256 OF THE DUMP (.gsa) THAT YtjgfkmfhadohbaaProg.lean LOADS. Nothing in Lean hashes anything: it is a label: what it is worth is what the hold of that sum in a sandbox is worth. -/
noncomputable def Try.pinned : Pinned := { name := "ytjgfkmfhadohbaa", sum := "f5d662e6688c091bf71826c8a792024d85dc3f764381ab8ee0faa54e0d1a0dd5", checked := Try.checked }
namespace Rows
def none {H : Type} : Left H := { results := [], args := [] }

/-- 'gloaminglaw3.PagesRuns': WHATEVER THE INPUT: true; the input reads as it did. -/
def pagesRunsSpec : ChangeSpec := { name := "pagesRuns", fn := fun _ => fun
  | [d1, d2] => { results := [.lit (.bool true)], args := [d1, d2] }
  | _ => none }
def pagesRunsRow : OpenClaim := { program := "ytjgfkmfhadohbaa", sum := "f5d662e6688c091bf71826c8a792024d85dc3f764381ab8ee0faa54e0d1a0dd5", func := "gloaming/gloaminglaw3.PagesRuns", spec := "pagesRuns", apart := false }
def PagesRunsSaid : Prop := pagesRunsRow.holds Try.pinned (OpenSpec.ofChange pagesRunsSpec)

/-- ITS FALSE NEIGHBOUR: 'it returns false'. Refute it at one input. -/
def pagesRunsWrong : ChangeSpec := { name := "pagesRuns", fn := fun _ => fun
  | [d1, d2] => { results := [.lit (.bool false)], args := [d1, d2] }
  | _ => none }
def PagesRunsWrongFalsely : Prop := pagesRunsRow.holds Try.pinned (OpenSpec.ofChange pagesRunsWrong)

/-- 'gloaminglaw3.PagesGiven': WHATEVER THE INPUT: true; the input reads as it did. -/
def pagesGivenSpec : ChangeSpec := { name := "pagesGiven", fn := fun _ => fun
  | [d1, d2] => { results := [.lit (.bool true)], args := [d1, d2] }
  | _ => none }
def pagesGivenRow : OpenClaim := { program := "ytjgfkmfhadohbaa", sum := "f5d662e6688c091bf71826c8a792024d85dc3f764381ab8ee0faa54e0d1a0dd5", func := "gloaming/gloaminglaw3.PagesGiven", spec := "pagesGiven", apart := false }
def PagesGivenSaid : Prop := pagesGivenRow.holds Try.pinned (OpenSpec.ofChange pagesGivenSpec)

/-- ITS FALSE NEIGHBOUR: 'it returns false'. Refute it at one input. -/
def pagesGivenWrong : ChangeSpec := { name := "pagesGiven", fn := fun _ => fun
  | [d1, d2] => { results := [.lit (.bool false)], args := [d1, d2] }
  | _ => none }
def PagesGivenWrongFalsely : Prop := pagesGivenRow.holds Try.pinned (OpenSpec.ofChange pagesGivenWrong)

/-- 'gloaminglaw3.PagesOne': WHATEVER THE INPUT: true; the input reads as it did. -/
def pagesOneSpec : ChangeSpec := { name := "pagesOne", fn := fun _ => fun
  | [d1, d2] => { results := [.lit (.bool true)], args := [d1, d2] }
  | _ => none }
def pagesOneRow : OpenClaim := { program := "ytjgfkmfhadohbaa", sum := "f5d662e6688c091bf71826c8a792024d85dc3f764381ab8ee0faa54e0d1a0dd5", func := "gloaming/gloaminglaw3.PagesOne", spec := "pagesOne", apart := false }
def PagesOneSaid : Prop := pagesOneRow.holds Try.pinned (OpenSpec.ofChange pagesOneSpec)

/-- ITS FALSE NEIGHBOUR: 'it returns false'. Refute it at one input. -/
def pagesOneWrong : ChangeSpec := { name := "pagesOne", fn := fun _ => fun
  | [d1, d2] => { results := [.lit (.bool false)], args := [d1, d2] }
  | _ => none }
def PagesOneWrongFalsely : Prop := pagesOneRow.holds Try.pinned (OpenSpec.ofChange pagesOneWrong)

/-- 'gloaminglaw3.PagesRefuses': WHATEVER THE INPUT: true; the input reads as it did. -/
def pagesRefusesSpec : ChangeSpec := { name := "pagesRefuses", fn := fun _ => fun
  | [d1, d2] => { results := [.lit (.bool true)], args := [d1, d2] }
  | _ => none }
def pagesRefusesRow : OpenClaim := { program := "ytjgfkmfhadohbaa", sum := "f5d662e6688c091bf71826c8a792024d85dc3f764381ab8ee0faa54e0d1a0dd5", func := "gloaming/gloaminglaw3.PagesRefuses", spec := "pagesRefuses", apart := false }
def PagesRefusesSaid : Prop := pagesRefusesRow.holds Try.pinned (OpenSpec.ofChange pagesRefusesSpec)

/-- ITS FALSE NEIGHBOUR: 'it returns false'. Refute it at one input. -/
def pagesRefusesWrong : ChangeSpec := { name := "pagesRefuses", fn := fun _ => fun
  | [d1, d2] => { results := [.lit (.bool false)], args := [d1, d2] }
  | _ => none }
def PagesRefusesWrongFalsely : Prop := pagesRefusesRow.holds Try.pinned (OpenSpec.ofChange pagesRefusesWrong)

/-- 'gloaminglaw3.PagesHoles': WHATEVER THE INPUT: true; the input reads as it did. -/
def pagesHolesSpec : ChangeSpec := { name := "pagesHoles", fn := fun _ => fun
  | [d1, d2] => { results := [.lit (.bool true)], args := [d1, d2] }
  | _ => none }
def pagesHolesRow : OpenClaim := { program := "ytjgfkmfhadohbaa", sum := "f5d662e6688c091bf71826c8a792024d85dc3f764381ab8ee0faa54e0d1a0dd5", func := "gloaming/gloaminglaw3.PagesHoles", spec := "pagesHoles", apart := false }
def PagesHolesSaid : Prop := pagesHolesRow.holds Try.pinned (OpenSpec.ofChange pagesHolesSpec)

/-- ITS FALSE NEIGHBOUR: 'it returns false'. Refute it at one input. -/
def pagesHolesWrong : ChangeSpec := { name := "pagesHoles", fn := fun _ => fun
  | [d1, d2] => { results := [.lit (.bool false)], args := [d1, d2] }
  | _ => none }
def PagesHolesWrongFalsely : Prop := pagesHolesRow.holds Try.pinned (OpenSpec.ofChange pagesHolesWrong)

/- THE SECOND FORM. 'bulk': how many values and letters a reading holds, each counted each time it is reached (what is shared counts as often as it is met; a slice's spare places count too). A statement '..UptoSaid' is the law's where the arguments, and the package variables that the reading takes, are together of bulk at most 1048576: NARROWER than '..Said'. Prove '..Said' where nothing that the law and all that it calls make is longer than what came in: it says more and counts as full. Else prove '..UptoSaid'. A law counts once. -/
mutual
def uptoBulk {H : Type} : DataW H → Nat
  | .lit (.string bytes) => bytes.length + 1
  | .lit _ => 1
  | .nil => 1
  | .ptr d => uptoBulk d + 1
  | .slice elems spare => uptoBulkAll elems + uptoBulkAll spare + 1
  | .agg parts => uptoBulkAll parts + 1
  | .iface _ d => uptoBulk d + 1
  | .map entries => uptoBulkEntries entries + 1
  | .held _ => 1
def uptoBulkAll {H : Type} : List (DataW H) → Nat
  | [] => 0
  | d :: r => uptoBulk d + uptoBulkAll r
def uptoBulkEntries {H : Type} : List (Lit × DataW H) → Nat
  | [] => 0
  | x :: r => uptoBulkEntry x + uptoBulkEntries r
def uptoBulkEntry {H : Type} : Lit × DataW H → Nat
  | (.string bytes, d) => bytes.length + uptoBulk d + 1
  | (_, d) => uptoBulk d + 1
 end
def uptoSmall : (H : Type) → List (DataW H) → Bool := fun _ ds => decide (uptoBulkAll ds ≤ 1048576)
def OpenSpec.upto (s : _root_.Go.ChangeSpec) : _root_.Go.OpenSpec := { _root_.Go.OpenSpec.ofChange s with cond := some uptoSmall }

/-- 'gloaminglaw3.PagesRuns', WHERE WHAT IT READS IS OF BULK AT MOST 1048576: true; the input reads as it did. -/
def pagesRunsUptoRow : OpenClaim := { program := "ytjgfkmfhadohbaa", sum := "f5d662e6688c091bf71826c8a792024d85dc3f764381ab8ee0faa54e0d1a0dd5", func := "gloaming/gloaminglaw3.PagesRuns", spec := "pagesRuns", apart := false, narrowed := true }
def PagesRunsUptoSaid : Prop := pagesRunsUptoRow.holds Try.pinned (OpenSpec.upto pagesRunsSpec)

/-- 'gloaminglaw3.PagesGiven', WHERE WHAT IT READS IS OF BULK AT MOST 1048576: true; the input reads as it did. -/
def pagesGivenUptoRow : OpenClaim := { program := "ytjgfkmfhadohbaa", sum := "f5d662e6688c091bf71826c8a792024d85dc3f764381ab8ee0faa54e0d1a0dd5", func := "gloaming/gloaminglaw3.PagesGiven", spec := "pagesGiven", apart := false, narrowed := true }
def PagesGivenUptoSaid : Prop := pagesGivenUptoRow.holds Try.pinned (OpenSpec.upto pagesGivenSpec)

/-- 'gloaminglaw3.PagesOne', WHERE WHAT IT READS IS OF BULK AT MOST 1048576: true; the input reads as it did. -/
def pagesOneUptoRow : OpenClaim := { program := "ytjgfkmfhadohbaa", sum := "f5d662e6688c091bf71826c8a792024d85dc3f764381ab8ee0faa54e0d1a0dd5", func := "gloaming/gloaminglaw3.PagesOne", spec := "pagesOne", apart := false, narrowed := true }
def PagesOneUptoSaid : Prop := pagesOneUptoRow.holds Try.pinned (OpenSpec.upto pagesOneSpec)

/-- 'gloaminglaw3.PagesRefuses', WHERE WHAT IT READS IS OF BULK AT MOST 1048576: true; the input reads as it did. -/
def pagesRefusesUptoRow : OpenClaim := { program := "ytjgfkmfhadohbaa", sum := "f5d662e6688c091bf71826c8a792024d85dc3f764381ab8ee0faa54e0d1a0dd5", func := "gloaming/gloaminglaw3.PagesRefuses", spec := "pagesRefuses", apart := false, narrowed := true }
def PagesRefusesUptoSaid : Prop := pagesRefusesUptoRow.holds Try.pinned (OpenSpec.upto pagesRefusesSpec)

/-- 'gloaminglaw3.PagesHoles', WHERE WHAT IT READS IS OF BULK AT MOST 1048576: true; the input reads as it did. -/
def pagesHolesUptoRow : OpenClaim := { program := "ytjgfkmfhadohbaa", sum := "f5d662e6688c091bf71826c8a792024d85dc3f764381ab8ee0faa54e0d1a0dd5", func := "gloaming/gloaminglaw3.PagesHoles", spec := "pagesHoles", apart := false, narrowed := true }
def PagesHolesUptoSaid : Prop := pagesHolesUptoRow.holds Try.pinned (OpenSpec.upto pagesHolesSpec)

end Rows
end Go.Proofs.Ytjgfkmfhadohbaa
