/-
  Memory in parts: what is said of a world and of the blocks that it owns; parts that share no block; what a call that turns one part leaves of the others. It speaks of no program.
-/
import Derived.Test.YtjlfjbdkffppeaaBase
namespace Go.Proofs.Ytjlfjbdkffppeaa
open Go.RowKit

/-- Something that is said of a world, and of all blocks that it rests on. -/
structure Asn where
  at' : World → List Nat → Prop
  keep : ∀ {S F : List Nat} {w w' : World}, at' w F → Keep S w w' → (∀ k, k ∈ F → k ∉ S) → at' w' F
  lt : ∀ {F : List Nat} {w : World}, at' w F → ∀ k, k ∈ F → k < w.heap.size

/-- What a call has turned: blocks of F alone; what it owns then are of F, or new. -/
structure Upd (w w' : World) (F F' : List Nat) : Prop where
  keep : Keep F w w'
  grow : ∀ k, k ∈ F' → k ∈ F ∨ w.heap.size ≤ k

theorem Upd.refl {w w' : World} {F : List Nat} (K : Keep [] w w') : Upd w w' F F := ⟨K.mono (by simp), fun _ h => .inl h⟩
theorem Upd.trans {a b c : World} {F G H : List Nat} (h : Upd a b F G) (k : Upd b c G H) : Upd a c F H := by
  refine ⟨⟨k.keep.os.trans h.keep.os, k.keep.tape.trans h.keep.tape, k.keep.output.trans h.keep.output, Nat.le_trans h.keep.size k.keep.size, fun i hi hF => ?_⟩, fun i hi => ?_⟩
  · rw [k.keep.block i (Nat.lt_of_lt_of_le hi h.keep.size) (fun e => ?_), h.keep.block i hi hF]
    rcases h.grow i e with e | e
    · exact hF e
    · omega
  · rcases k.grow i hi with e | e
    · exact h.grow i e
    · exact .inr (Nat.le_trans h.keep.size e)
theorem Upd.mono {w w' : World} {F F' G : List Nat} (h : Upd w w' F F') (hS : ∀ k, k ∈ F → k ∈ G) : Upd w w' G F' := ⟨h.keep.mono hS, fun k hk => (h.grow k hk).imp (hS k) id⟩

/-- One block, known whole. -/
def blockA (b : Nat) (o : Obj) : Asn where
  at' w F := F = [b] ∧ w.heap[b]? = some o
  keep := fun h K hS => ⟨h.1, K.blk h.2 (hS _ (by rw [h.1]; simp))⟩
  lt := fun h k hk => by rw [h.1] at hk; simp at hk; subst hk; exact lt_of_block h.2

/-- Two parts that share no block. -/
def Asn.star (A B : Asn) : Asn where
  at' w F := ∃ F1 F2, (∀ k, k ∈ F ↔ k ∈ F1 ∨ k ∈ F2) ∧ A.at' w F1 ∧ B.at' w F2 ∧ ∀ k, k ∈ F1 → k ∉ F2
  keep := fun h K hS => by
    obtain ⟨F1, F2, hF, h1, h2, hd⟩ := h
    exact ⟨F1, F2, hF, A.keep h1 K (fun k hk => hS k ((hF k).2 (.inl hk))), B.keep h2 K (fun k hk => hS k ((hF k).2 (.inr hk))), hd⟩
  lt := fun h k hk => by
    obtain ⟨F1, F2, hF, h1, h2, hd⟩ := h
    rcases (hF k).1 hk with e | e
    · exact A.lt h1 k e
    · exact B.lt h2 k e

theorem star_comm {A B : Asn} {w : World} {F : List Nat} (h : (A.star B).at' w F) : (B.star A).at' w F := by
  obtain ⟨F1, F2, hF, h1, h2, hd⟩ := h
  exact ⟨F2, F1, fun k => (hF k).trans ⟨Or.symm, Or.symm⟩, h2, h1, fun k e1 e2 => hd k e2 e1⟩
theorem star_assoc {A B C : Asn} {w : World} {F : List Nat} (h : ((A.star B).star C).at' w F) : (A.star (B.star C)).at' w F := by
  obtain ⟨F12, F3, hF, ⟨F1, F2, hF', h1, h2, hd'⟩, h3, hd⟩ := h
  refine ⟨F1, F2 ++ F3, fun k => ?_, h1, ⟨F2, F3, fun k => by simp, h2, h3, fun k e => hd k ((hF' k).2 (.inr e))⟩, fun k e => ?_⟩
  · rw [hF, hF', List.mem_append, or_assoc]
  · rw [List.mem_append]
    rintro (e' | e')
    · exact hd' k e e'
    · exact hd k ((hF' k).2 (.inl e)) e'
theorem star_assoc' {A B C : Asn} {w : World} {F : List Nat} (h : (A.star (B.star C)).at' w F) : ((A.star B).star C).at' w F := by
  obtain ⟨F1, F23, hF, h1, ⟨F2, F3, hF', h2, h3, hd'⟩, hd⟩ := h
  refine ⟨F1 ++ F2, F3, fun k => ?_, ⟨F1, F2, fun k => by simp, h1, h2, fun k e e' => hd k e ((hF' k).2 (.inl e'))⟩, h3, fun k e e' => ?_⟩
  · rw [hF, hF', List.mem_append, or_assoc]
  · rw [List.mem_append] at e
    rcases e with e | e
    · exact hd k e ((hF' k).2 (.inr e'))
    · exact hd' k e e'

/-- The first part is turned. -/
theorem star_left {A' B : Asn} {w w' : World} {F F1 F2 F1' : List Nat} (hF : ∀ k, k ∈ F ↔ k ∈ F1 ∨ k ∈ F2) (hd : ∀ k, k ∈ F1 → k ∉ F2) (hB : B.at' w F2) (h : A'.at' w' F1') (u : Upd w w' F1 F1') : ∃ F', (A'.star B).at' w' F' ∧ Upd w w' F F' := by
  have hlt := B.lt hB
  refine ⟨F1' ++ F2, ⟨F1', F2, fun k => by simp, h, B.keep hB u.keep (fun k e e' => hd k e' e), fun k e e' => ?_⟩, u.keep.mono (fun k e => (hF k).2 (.inl e)), fun k e => ?_⟩
  · rcases u.grow k e with g | g
    · exact hd k g e'
    · have := hlt k e'; omega
  · rw [List.mem_append] at e
    rcases e with e | e
    · exact (u.grow k e).imp (fun g => (hF k).2 (.inl g)) id
    · exact .inl ((hF k).2 (.inr e))
/-- The second part is turned. -/
theorem star_right {A B' : Asn} {w w' : World} {F F1 F2 F2' : List Nat} (hF : ∀ k, k ∈ F ↔ k ∈ F1 ∨ k ∈ F2) (hd : ∀ k, k ∈ F1 → k ∉ F2) (hA : A.at' w F1) (h : B'.at' w' F2') (u : Upd w w' F2 F2') : ∃ F', (A.star B').at' w' F' ∧ Upd w w' F F' := by
  obtain ⟨F', h1, h2⟩ := star_left (A' := B') (B := A) (F := F) (fun k => (hF k).trans ⟨Or.symm, Or.symm⟩) (fun k e e' => hd k e' e) hA h u
  exact ⟨F', star_comm h1, h2⟩
/-- A part that is new. -/
theorem star_new {A B : Asn} {w w' : World} {F G : List Nat} (hA : A.at' w F) (K : Keep [] w w') (hB : B.at' w' G) (hG : ∀ k, k ∈ G → w.heap.size ≤ k) : ∃ F', (A.star B).at' w' F' ∧ Upd w w' F F' := by
  refine ⟨F ++ G, ⟨F, G, fun k => by simp, A.keep hA K (by simp), hB, fun k e e' => ?_⟩, K.mono (by simp), fun k e => ?_⟩
  · have := A.lt hA k e
    have := hG k e'
    omega
  · rw [List.mem_append] at e
    exact e.imp id (hG k)

/-- What is owned in w, grown out of F0 in w0: blocks of F0 alone have been turned since, and what is owned are of F0, or new. With no F0 all of it is younger than w0, and all that is older is as it was. -/
def Has (w0 : World) (F0 : List Nat) (A : Asn) (w : World) : Prop := ∃ F, A.at' w F ∧ Upd w0 w F0 F
theorem Has.start {w : World} {A : Asn} {F : List Nat} (h : A.at' w F) : Has w F A w := ⟨F, h, Upd.refl (Keep.refl _ _)⟩
theorem Has.K {w0 w : World} {A : Asn} {F0 : List Nat} (h : Has w0 F0 A w) : Keep F0 w0 w := by obtain ⟨F, _, h⟩ := h; exact h.keep
theorem Has.keep0 {w0 w w' : World} {A : Asn} {F0 : List Nat} (h : Has w0 F0 A w) (K : Keep [] w w') : Has w0 F0 A w' := by
  obtain ⟨F, h1, h2⟩ := h
  exact ⟨F, A.keep h1 K (by simp), h2.trans (Upd.refl K)⟩
theorem Has.map {w0 w : World} {A B : Asn} {F0 : List Nat} (h : Has w0 F0 A w) (f : ∀ F, A.at' w F → B.at' w F) : Has w0 F0 B w := by
  obtain ⟨F, h1, h2⟩ := h
  exact ⟨F, f F h1, h2⟩
theorem Has.comm {w0 w : World} {A B : Asn} {F0 : List Nat} (h : Has w0 F0 (A.star B) w) : Has w0 F0 (B.star A) w := h.map (fun _ => star_comm)
theorem Has.assoc {w0 w : World} {A B C : Asn} {F0 : List Nat} (h : Has w0 F0 ((A.star B).star C) w) : Has w0 F0 (A.star (B.star C)) w := h.map (fun _ => star_assoc)
theorem Has.assoc' {w0 w : World} {A B C : Asn} {F0 : List Nat} (h : Has w0 F0 (A.star (B.star C)) w) : Has w0 F0 ((A.star B).star C) w := h.map (fun _ => star_assoc')
theorem Has.fst {w0 w : World} {A B : Asn} {F0 : List Nat} (h : Has w0 F0 (A.star B) w) : Has w0 F0 A w := by
  obtain ⟨F, ⟨F1, F2, hF, h1, _⟩, h2⟩ := h
  exact ⟨F1, h1, h2.keep, fun k e => h2.grow k ((hF k).2 (.inl e))⟩
theorem Has.snd {w0 w : World} {A B : Asn} {F0 : List Nat} (h : Has w0 F0 (A.star B) w) : Has w0 F0 B w := h.comm.fst
theorem Has.upd {w0 w w' : World} {A' : Asn} {F0 F F' : List Nat} (u : Upd w0 w F0 F) (h : A'.at' w' F') (v : Upd w w' F F') : Has w0 F0 A' w' := ⟨F', h, u.trans v⟩
theorem Has.then {w0 w w' : World} {A A' : Asn} {F0 : List Nat} (h : Has w0 F0 A w) (g : ∀ F, A.at' w F → Has w F A' w') : Has w0 F0 A' w' := by
  obtain ⟨F, h1, h2⟩ := h
  obtain ⟨F', h3, h4⟩ := g F h1
  exact ⟨F', h3, h2.trans h4⟩
/-- Something new beside it. -/
theorem Has.more {w0 w w' : World} {A B : Asn} {F0 G : List Nat} (h : Has w0 F0 A w) (K : Keep [] w w') (hB : B.at' w' G) (hG : ∀ k, k ∈ G → w.heap.size ≤ k) : Has w0 F0 (A.star B) w' := by
  obtain ⟨F, h1, h2⟩ := h
  obtain ⟨F', g1, g2⟩ := star_new h1 K hB hG
  exact ⟨F', g1, h2.trans g2⟩
/-- The first part is turned. -/
theorem Has.left {w0 w w' : World} {A A' B : Asn} {F0 : List Nat} (h : Has w0 F0 (A.star B) w) (g : ∀ F, A.at' w F → Has w F A' w') : Has w0 F0 (A'.star B) w' := by
  obtain ⟨F, ⟨F1, F2, hF, h1, h2, hd⟩, u⟩ := h
  obtain ⟨F', h3, h4⟩ := g F1 h1
  obtain ⟨F'', h5, h6⟩ := star_left hF hd h2 h3 h4
  exact ⟨F'', h5, u.trans h6⟩
/-- A fact that holds of a part, wherever it lies. -/
theorem Has.fact {w0 w : World} {A : Asn} {F0 : List Nat} {p : Prop} (h : Has w0 F0 A w) (g : ∀ F, A.at' w F → p) : p := by
  obtain ⟨F, h1, _⟩ := h
  exact g F h1

/-- A call that turns what it is told of. -/
theorem has_call {P : Program} {f : FuncId} {args : Array Value} {w0 w : World} {A A' : Asn} {F0 : List Nat} {Q : Ending → World → Prop} (h : Has w0 F0 A w) (hc : ∀ F, Has w F A w → Calls P f args w fun e w' => Q e w' ∧ Has w F A' w') :
    Calls P f args w fun e w' => Q e w' ∧ Has w0 F0 A' w' := by
  obtain ⟨F, h1, h2⟩ := h
  refine (hc F (Has.start h1)).mono ?_
  rintro e w' ⟨hq, F', g1, g2⟩
  exact ⟨hq, F', g1, h2.trans g2⟩
/-- A call that turns the first part alone. -/
theorem has_left {P : Program} {f : FuncId} {args : Array Value} {w0 w : World} {A A' B : Asn} {F0 : List Nat} {Q : Ending → World → Prop} (h : Has w0 F0 (A.star B) w) (hc : ∀ F, Has w F A w → Calls P f args w fun e w' => Q e w' ∧ Has w F A' w') :
    Calls P f args w fun e w' => Q e w' ∧ Has w0 F0 (A'.star B) w' := by
  obtain ⟨F, ⟨F1, F2, hF, h1, h2, hd⟩, u⟩ := h
  refine (hc F1 (Has.start h1)).mono ?_
  rintro e w' ⟨hq, F', g1, g2⟩
  obtain ⟨F'', h5, h6⟩ := star_left hF hd h2 g1 g2
  exact ⟨hq, F'', h5, u.trans h6⟩
theorem has_right {P : Program} {f : FuncId} {args : Array Value} {w0 w : World} {A B B' : Asn} {F0 : List Nat} {Q : Ending → World → Prop} (h : Has w0 F0 (A.star B) w) (hc : ∀ F, Has w F B w → Calls P f args w fun e w' => Q e w' ∧ Has w F B' w') :
    Calls P f args w fun e w' => Q e w' ∧ Has w0 F0 (A.star B') w' := by
  refine (has_left h.comm hc).mono ?_
  rintro e w' ⟨hq, h⟩
  exact ⟨hq, h.comm⟩
/-- A call that turns nothing of it. -/
theorem has_same {P : Program} {f : FuncId} {args : Array Value} {w0 w : World} {A : Asn} {F0 : List Nat} {Q : Ending → World → Prop} (h : Has w0 F0 A w) (hc : Calls P f args w fun e w' => Q e w' ∧ Keep [] w w') :
    Calls P f args w fun e w' => Q e w' ∧ Has w0 F0 A w' := by
  refine hc.mono ?_
  rintro e w' ⟨hq, hK⟩
  exact ⟨hq, h.keep0 hK⟩

end Go.Proofs.Ytjlfjbdkffppeaa
