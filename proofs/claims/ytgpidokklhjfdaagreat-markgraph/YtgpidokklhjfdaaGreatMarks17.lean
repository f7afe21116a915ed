/-
  Marks of a graph, one behind the other: plain facts, and parts of memory.
-/
import Derived.Test.YtgpidokklhjfdaaGreatAwake17
import Derived.Test.YtgpidokklhjfdaaGreatSome17
import Derived.Test.YtgpidokklhjfdaaGreatSame
import Derived.Test.YtgpidokklhjfdaaGreatPart7
namespace Go.Proofs.YtgpidokklhjfdaaGreat
open Go.RowKit

theorem star_swap12 {A B C : Asn} {w : World} {F : List Nat} (h : (A.star (B.star C)).at' w F) : (B.star (A.star C)).at' w F := star_assoc (star_comm (star_mono (fun _ g => star_comm g) (star_comm (star_assoc' h))))
theorem Has.swapST {w0 w : World} {F0 : List Nat} {H S T R : Asn} (h : Has w0 F0 ((H.star S).star (T.star R)) w) : Has w0 F0 ((H.star T).star (S.star R)) w := (h.assoc.map (fun _ g => star_mono (fun _ g => star_swap12 g) g)).assoc'
theorem Has.mint {w0 w : World} {F0 : List Nat} {t : TypeId} {la : Option Addr} {n c : Nat} {L : List Int} (h : Has w0 F0 (midA t (.slice la n c) L) w) (hb : inR L) : IntsAt w la L := ((h.fact (fun _ h => h.2) : IsMid w t (.slice la n c) L).ints hb).1
section
variable {kd : List PK} {ws : List Int} {ds : List (Int × List Int)}
theorem Reach.app {M N : List Int} {x : Int} : Reach kd ws ds (M ++ N) x ↔ Reach kd ws ds M x ∨ Reach kd ws ds N x := by
  constructor
  · intro h
    induction h with
    | root h1 h2 =>
      rcases List.mem_append.1 h1 with e | e
      · exact .inl (.root e h2)
      · exact .inr (.root e h2)
    | step _ h1 h2 ih =>
      rcases ih with e | e
      · exact .inl (.step e h1 h2)
      · exact .inr (.step e h1 h2)
  · rintro (h | h)
    · exact h.mono (fun y hy => by
        cases e : isAt kd y with
        | false => exact .inr rfl
        | true => exact .inl (.root (List.mem_append.2 (.inl hy)) e))
    · exact h.mono (fun y hy => by
        cases e : isAt kd y with
        | false => exact .inr rfl
        | true => exact .inl (.root (List.mem_append.2 (.inr hy)) e))
theorem MarkT.two {xs ys zs us : List Bool} {M N : List Int} (h1 : MarkT kd ws ds xs M ys) (h2 : MarkT kd ws ds ys N zs) (h3 : MarkT kd ws ds xs (N ++ M) us) : us = zs :=
  onM_ext (by rw [h3.len, h2.len, h1.len]) (fun x => by
    rw [h3.iff, h2.iff, h1.iff, Reach.app]
    constructor
    · rintro (h | h | h)
      · exact .inl (.inl h)
      · exact .inr h
      · exact .inl (.inr h)
    · rintro ((h | h) | h)
      · exact .inl h
      · exact .inr (.inr h)
      · exact .inr (.inl h))
theorem MarkT.again {xs ys : List Bool} {M : List Int} (h : ∀ x, Reach kd ws ds M x → onM ys x = true) (_ : ys.length = xs.length) : MarkT kd ws ds ys M ys := ⟨rfl, fun x => ⟨.inl, fun e => by
  rcases e with e | e
  · exact e
  · exact h x e⟩⟩
theorem Reach.src {M : List Int} {x : Int} (h : Reach kd ws ds M x) : x ∈ M ∨ ∃ y, y ≠ x ∧ Reach kd ws ds M y ∧ Led kd ws ds y x := by
  induction h with
  | root h _ => exact .inl h
  | step h1 h2 h3 ih =>
    rename_i x y
    by_cases e : x = y
    · subst e; exact ih
    · exact .inr ⟨x, e, h1, h2⟩
end
end Go.Proofs.YtgpidokklhjfdaaGreat
