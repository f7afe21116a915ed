/-
  More of memory in parts: the first part's block is another, a new block, calls on the first part.
-/
import Derived.Test.YtjlfjbdkffppeaaMid
namespace Go.Proofs.Ytjlfjbdkffppeaa
open Go.RowKit

theorem hid {p : Prop} (h : p) : Hid p := h
section
variable {w0 w : World} {F0 : List Nat}
/-- The first part's block is another. -/
theorem Has.setB {A : Asn} {w' : World} {b : Nat} {o o' : Obj} (h : Has w0 F0 ((blockA b o).star A) w) (K : Keep [b] w w') (ho : w'.heap[b]? = some o') : Has w0 F0 ((blockA b o').star A) w' :=
  Has.left h (fun F hF => ⟨[b], ⟨rfl, ho⟩, by rw [hF.1]; exact K, fun k e => by rw [hF.1]; exact .inl e⟩)
theorem Has.swap {A B C : Asn} (h : Has w0 F0 ((A.star B).star C) w) : Has w0 F0 ((A.star C).star B) w :=
  (h.assoc.map (fun _ g => star_mono (fun _ g => star_comm g) g)).assoc'
/-- A block that is new. -/
theorem Has.newB {A : Asn} (h : Has w0 F0 A w) (o : Obj) : Has w0 F0 (A.star (blockA w.heap.size o)) (w.alloc o) :=
  h.more (Keep.alloc [] w o) (G := [w.heap.size]) ⟨rfl, heap_alloc_new w o⟩ (fun k hk => by simp at hk; omega)
/-- A call that turns the first part into one that it tells of. -/
theorem has_left_ex {X : Type} {P : Program} {f : FuncId} {args : Array Value} {A B : Asn} {A' : X → Asn} {Q : X → Ending → World → Prop} (h : Has w0 F0 (A.star B) w) (hc : ∀ F, Has w F A w → Calls P f args w fun e w' => ∃ x, Q x e w' ∧ Has w F (A' x) w') :
    Calls P f args w fun e w' => ∃ x, Q x e w' ∧ Has w0 F0 ((A' x).star B) w' := by
  obtain ⟨F, ⟨F1, F2, hF, h1, h2, hd⟩, u⟩ := h
  refine (hc F1 (Has.start h1)).mono ?_
  rintro e w' ⟨x, hq, F', g1, g2⟩
  obtain ⟨F'', h5, h6⟩ := star_left hF hd h2 g1 g2
  exact ⟨x, hq, F'', h5, u.trans h6⟩
/-- A call that turns nothing of the first part. -/
theorem has_fst {P : Program} {f : FuncId} {args : Array Value} {A B : Asn} {Q : Ending → World → Prop} (h : Has w0 F0 (A.star B) w) (hc : Has w0 F0 A w → Calls P f args w fun e w' => Q e w' ∧ Keep [] w w') :
    Calls P f args w fun e w' => Q e w' ∧ Has w0 F0 (A.star B) w' := by
  refine (hc h.fst).mono ?_
  rintro e w' ⟨hq, hK⟩
  exact ⟨hq, h.keep0 hK⟩
end

end Go.Proofs.Ytjlfjbdkffppeaa
