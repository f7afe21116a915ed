/-
  No cell of these rows narrows 'for every input' (looked for: loops, veiled, ifaces, maps, wideKeys, modest, calm, conditions, laid).
  DERIVED. THE GIVEN ROWS OF THIS SEAT. 2 by the template 'for every input the law returns true; each argument reads behind the call as it read before'; 0 by the template 'total and deterministic' (their statements: YtdpaffnpedcmpabTotals.lean).
  GIVEN WITH THE SEED: the statements are not yours to turn. If you find one false, say at which input.
  Laid BY PROGRAM, IN A SANDBOX (cutbox-rows.mjs): the forced cells as the released guide's own fill.sh prints them over the translation df922b9dddc46b42… (all of the seat's roots in one cut). By AI agents, Wed Nov 11 2026. No macro, syntax, notation, axiom, sorry.
-/
import Derived.Test.YtdpaffnpedcmpabChecked
import GoSem.Claim
import GoSem.ClaimJoined
import GoSem.ClaimMapViews
import Derived.JoinedTies
import Derived.KernelRfl
namespace Go.Proofs.Ytdpaffnpedcmpab
/- THE CELL 'sum', in the pinned program and in every row, IS THE sha256 OF THE DUMP (.gsa) THAT YtdpaffnpedcmpabProg.lean LOADS. Nothing in Lean hashes anything: it is a label: what it is worth is what the hold of that sum in a sandbox is worth. -/
noncomputable def Try.pinned : Pinned := { name := "ytdpaffnpedcmpab", sum := "df922b9dddc46b4243c92ebc7c6fc6dbfbd81978773b3a2487b407b020dfc0bd", checked := Try.checked }
namespace Rows
def none {H : Type} : Left H := { results := [], args := [] }

/-- 'gloaminglaw9.ObjectGone': WHATEVER THE INPUT: true; the input reads as it did. -/
def objectGoneSpec : ChangeSpec := { name := "objectGone", fn := fun _ => fun
  | [d1, d2] => { results := [.lit (.bool true)], args := [d1, d2] }
  | _ => none }
def objectGoneRow : OpenClaim := { program := "ytdpaffnpedcmpab", sum := "df922b9dddc46b4243c92ebc7c6fc6dbfbd81978773b3a2487b407b020dfc0bd", func := "gloaming/gloaminglaw9.ObjectGone", spec := "objectGone", apart := false }
def ObjectGoneSaid : Prop := objectGoneRow.holds Try.pinned (OpenSpec.ofChange objectGoneSpec)

/-- ITS FALSE NEIGHBOUR: 'it returns false'. Refute it at one input. -/
def objectGoneWrong : ChangeSpec := { name := "objectGone", fn := fun _ => fun
  | [d1, d2] => { results := [.lit (.bool false)], args := [d1, d2] }
  | _ => none }
def ObjectGoneWrongFalsely : Prop := objectGoneRow.holds Try.pinned (OpenSpec.ofChange objectGoneWrong)

/-- 'gloaminglaw9.ObjectClasses': WHATEVER THE INPUT: true; the input reads as it did. -/
def objectClassesSpec : ChangeSpec := { name := "objectClasses", fn := fun _ => fun
  | [d] => { results := [.lit (.bool true)], args := [d] }
  | _ => none }
def objectClassesRow : OpenClaim := { program := "ytdpaffnpedcmpab", sum := "df922b9dddc46b4243c92ebc7c6fc6dbfbd81978773b3a2487b407b020dfc0bd", func := "gloaming/gloaminglaw9.ObjectClasses", spec := "objectClasses", apart := false }
def ObjectClassesSaid : Prop := objectClassesRow.holds Try.pinned (OpenSpec.ofChange objectClassesSpec)

/-- ITS FALSE NEIGHBOUR: 'it returns false'. Refute it at one input. -/
def objectClassesWrong : ChangeSpec := { name := "objectClasses", fn := fun _ => fun
  | [d] => { results := [.lit (.bool false)], args := [d] }
  | _ => none }
def ObjectClassesWrongFalsely : Prop := objectClassesRow.holds Try.pinned (OpenSpec.ofChange objectClassesWrong)

/- THE SECOND FORM. 'bulk': how many values and letters a reading holds, each counted each time it is reached (what is shared counts as often as it is met; a slice's spare places count too). A statement '..UptoSaid' is the law's where the arguments, and the package variables that the reading takes, are together of bulk at most 1048576: NARROWER than '..Said'. Prove '..Said' where nothing that the law and all that it calls make is longer than what came in: it says more and counts as full. Else prove '..UptoSaid'. A law counts once. -/
mutual
def uptoBulk {H : Type} : DataW H → Nat
  | .lit (.string bytes) => bytes.length + 1
  | .lit _ => 1
  | .nil => 1
  | .ptr d => uptoBulk d + 1
  | .slice elems spare => uptoBulkAll elems + uptoBulkAll spare + 1
  | .agg parts => uptoBulkAll parts + 1
  | .iface _ d => uptoBulk d + 1
  | .map entries => uptoBulkEntries entries + 1
  | .held _ => 1
def uptoBulkAll {H : Type} : List (DataW H) → Nat
  | [] => 0
  | d :: r => uptoBulk d + uptoBulkAll r
def uptoBulkEntries {H : Type} : List (Lit × DataW H) → Nat
  | [] => 0
  | x :: r => uptoBulkEntry x + uptoBulkEntries r
def uptoBulkEntry {H : Type} : Lit × DataW H → Nat
  | (.string bytes, d) => bytes.length + uptoBulk d + 1
  | (_, d) => uptoBulk d + 1
 end
def uptoSmall : (H : Type) → List (DataW H) → Bool := fun _ ds => decide (uptoBulkAll ds ≤ 1048576)
def OpenSpec.upto (s : _root_.Go.ChangeSpec) : _root_.Go.OpenSpec := { _root_.Go.OpenSpec.ofChange s with cond := some uptoSmall }

/-- 'gloaminglaw9.ObjectGone', WHERE WHAT IT READS IS OF BULK AT MOST 1048576: true; the input reads as it did. -/
def objectGoneUptoRow : OpenClaim := { program := "ytdpaffnpedcmpab", sum := "df922b9dddc46b4243c92ebc7c6fc6dbfbd81978773b3a2487b407b020dfc0bd", func := "gloaming/gloaminglaw9.ObjectGone", spec := "objectGone", apart := false, narrowed := true }
def ObjectGoneUptoSaid : Prop := objectGoneUptoRow.holds Try.pinned (OpenSpec.upto objectGoneSpec)

/-- 'gloaminglaw9.ObjectClasses', WHERE WHAT IT READS IS OF BULK AT MOST 1048576: true; the input reads as it did. -/
def objectClassesUptoRow : OpenClaim := { program := "ytdpaffnpedcmpab", sum := "df922b9dddc46b4243c92ebc7c6fc6dbfbd81978773b3a2487b407b020dfc0bd", func := "gloaming/gloaminglaw9.ObjectClasses", spec := "objectClasses", apart := false, narrowed := true }
def ObjectClassesUptoSaid : Prop := objectClassesUptoRow.holds Try.pinned (OpenSpec.upto objectClassesSpec)

end Rows
end Go.Proofs.Ytdpaffnpedcmpab
