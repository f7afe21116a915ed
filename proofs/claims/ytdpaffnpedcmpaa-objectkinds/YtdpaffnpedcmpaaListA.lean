/-
  A list of integers that nothing turns, as a part of memory beside others.
-/
import Derived.Test.YtdpaffnpedcmpaaSep
import Derived.Test.YtdpaffnpedcmpaaTwin
namespace Go.Proofs.Ytdpaffnpedcmpaa
open Go.RowKit

def listA (la : Option Addr) (L : List Int) : Asn where
  at' w F := F = la.toList.map (·.block) ∧ IntsAt w la L ∧ ∀ a, la = some a → a.block < w.heap.size
  keep := fun h K hS => ⟨h.1, h.2.1.keep K (fun _ a e => hS _ (by rw [h.1, e]; simp)), fun a e => Nat.lt_of_lt_of_le (h.2.2 a e) K.size⟩
  lt := fun h k hk => by
    rw [h.1] at hk
    simp at hk
    obtain ⟨a, e, rfl⟩ := hk
    exact h.2.2 a e
theorem Has.list {w0 w : World} {F0 : List Nat} {la : Option Addr} {L : List Int} (h : Has w0 F0 (listA la L) w) : IntsAt w la L := h.fact (fun _ h => h.2.1)
/-- A list that was made since w beside what there is. -/
theorem Has.listed {w0 w w' : World} {F0 : List Nat} {A : Asn} {v : Value} {n : Nat} {L : List Int} {t : TypeId} (h : Has w0 F0 A w) (K : Keep [] w w') (ho : w'.ownsRow w.heap.size t 1 v n (ints L)) (hb : ∀ i : Nat, -9223372036854775808 ≤ L[i]?.getD 0 ∧ L[i]?.getD 0 ≤ 9223372036854775807) :
    ∃ la lc, v = .slice la L.length lc ∧ (la = none → lc = 0) ∧ Has w0 F0 (A.star (listA la L)) w' := by
  rcases own_ints ho hb with ⟨rfl, rfl, _⟩ | ⟨g, cap, rfl, _, h2, h3, h4⟩
  · exact ⟨none, 0, rfl, fun _ => rfl, h.more K (G := []) ⟨rfl, IntsAt.nil _ _, by simp⟩ (by simp)⟩
  · exact ⟨some ⟨g, 0, none⟩, cap, rfl, by simp, h.more K (G := [g]) ⟨rfl, h4, fun a e => by cases e; exact h3⟩ (by simpa using h2)⟩

end Go.Proofs.Ytdpaffnpedcmpaa
