/-
  What the calls of queues answer and leave, whatever is asked: plain facts.
-/
import Derived.Test.YtgpidokklhjfdaaGreatPart3
import Derived.Test.YtgpidokklhjfdaaGreatPart6
namespace Go.Proofs.YtgpidokklhjfdaaGreat
open Go.RowKit

/-- What link leaves. -/
inductive LinkT (kd : List PK) (ws : List Int) (a x : Int) : List Int → Prop
  | no (k c l E : Int) (f : Bool) : HeadT kd ws a k c l f E → k ≠ 4 → LinkT kd ws a x ws
  | yes (b m : Nat) (c l E : Int) (f : Bool) (ws' : List Int) : At kd ws a b m 4 c l f → PutT kd ws a 2 x E ws' → LinkT kd ws a x ws'
theorem LinkT.fine {kd : List PK} {ws ws' : List Int} {ds : List (Int × List Int)} {a x : Int} (h : LinkT kd ws a x ws') (hf : Fine ws kd ds) (hx : inI x) : Fine ws' kd ds := by
  cases h with
  | no k c l E f h1 h2 => exact hf
  | yes b m c l E f ws' h1 h2 => exact h2.fine hf hx
def IsQ (Ls : List (List Int)) (i : Int) : Prop := 0 ≤ i ∧ i < (Ls.length : Int)
/-- What Push answers and leaves. -/
inductive PushT (kd : List PK) (ws : List Int) (Ls : List (List Int)) (i a : Int) : Int → List Int → List (List Int) → Prop
  | none : ¬ IsQ Ls i → PushT kd ws Ls i a 2 ws Ls
  | kind (k c l E : Int) (f : Bool) : IsQ Ls i → HeadT kd ws a k c l f E → k ≠ 4 → PushT kd ws Ls i a 5 ws Ls
  | first (j b m : Nat) (c l : Int) (f : Bool) (ws' : List Int) : i = j → Ls[j]? = some [] → At kd ws a b m 4 c l f → LinkT kd ws a 0 ws' → PushT kd ws Ls i a 0 ws' (Ls.set j [a])
  | more (j b m : Nat) (c l y : Int) (f : Bool) (L : List Int) (ws1 ws' : List Int) : i = j → Ls[j]? = some (L ++ [y]) → At kd ws a b m 4 c l f → LinkT kd ws y a ws1 → LinkT kd ws1 a 0 ws' → PushT kd ws Ls i a 0 ws' (Ls.set j (L ++ [y] ++ [a]))
/-- What Poll answers and leaves. -/
inductive PollT (kd : List PK) (ws : List Int) (Ls : List (List Int)) (i : Int) : Int → Int → List Int → List (List Int) → Prop
  | none : ¬ IsQ Ls i → PollT kd ws Ls i 0 2 ws Ls
  | empty (j : Nat) : i = j → Ls[j]? = some [] → PollT kd ws Ls i 0 0 ws Ls
  | yes (j : Nat) (x : Int) (L : List Int) (ws' : List Int) : i = j → Ls[j]? = some (x :: L) → LinkT kd ws x 0 ws' → PollT kd ws Ls i x 0 ws' (Ls.set j L)

end Go.Proofs.YtgpidokklhjfdaaGreat
