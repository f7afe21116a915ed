/-
  The plain mathematics of HandleStale: one of k that hold is dropped and held again, over and over. It speaks of no program.
-/
import Derived.Test.YtenggkgmbmboeaaHandP
namespace Go.Proofs.Ytenggkgmbmboeaa.handleStale
open Go.RowKit

/-- Behind i rounds. -/
structure St (k j i : Nat) (xs ts L : List Int) : Prop where
  ok : HOK i xs ts
  pref : Pref xs k
  len : L.length = k
  tell : ∀ t : Nat, t < k → L[t]?.getD 0 = (t : Int) + 512 * ts[t]?.getD 0
  turn : ts[j]?.getD 0 = 1 + (i : Int)
  old : ∀ t : Nat, t < k → t ≠ j → xs[t]?.getD 0 = 100 + (t : Int)
  new : 0 < i → 900 ≤ xs[j]?.getD 0
theorem St.start {k j : Nat} {xs : List Int} (h1 : HOK 0 xs onesL) (h2 : Pref xs k) (h3 : ∀ t : Nat, t < k → xs[t]?.getD 0 = 100 + (t : Int)) (hj : j < k) (hk : k ≤ 512) : St k j 0 xs onesL (upH k) :=
  ⟨h1, h2, upH_length k, fun t ht => by rw [upH_get k t ht, onesL_get t (by omega)]; omega, by rw [onesL_get j (by omega)]; rfl, fun t ht _ => h3 t ht, fun h => by omega⟩
theorem St.held {k j i : Nat} {xs ts L : List Int} (h : St k j i xs ts L) (hk : k ≤ 512) (t : Nat) (ht : t < k) : HeldT xs ts (L[t]?.getD 0) (xs[t]?.getD 0) 0 :=
  .inr ⟨t, ⟨by omega, h.pref.yes t ht, h.tell t ht⟩, rfl, rfl⟩
theorem St.step {k j i : Nat} {xs ts L : List Int} (h : St k j i xs ts L) (hk : k ≤ 512) (hj : j < k) :
    ∃ xs1 ts1 xs2, DropT xs ts (L[j]?.getD 0) 0 xs1 ts1 ∧ HOK (i + 1) xs1 ts1 ∧ HoldT xs1 ts1 (900 + (i : Int)) ((j : Int) + 512 * (2 + (i : Int))) 0 xs2 ∧ (i < 1000000 → St k j (i + 1) xs2 ts1 (L.set j ((j : Int) + 512 * (2 + (i : Int))))) ∧ Stale xs2 ts1 (512 + (j : Int)) := by
  have hd : DropT xs ts (L[j]?.getD 0) 0 (xs.set j 0) (ts.set j (ts[j]?.getD 0 + 1)) := .inr ⟨j, ⟨by omega, h.pref.yes j hj, h.tell j hj⟩, rfl, rfl, rfl⟩
  have hok := hd.ok h.ok
  have hlx : j < xs.length := by rw [h.ok.lx]; omega
  have hlt : j < ts.length := by rw [h.ok.lt]; omega
  have htj : (ts.set j (ts[j]?.getD 0 + 1))[j]?.getD 0 = 2 + (i : Int) := by rw [set_get_same _ _ _ hlt, h.turn]; omega
  have hf : FreeAt (xs.set j 0) j := ⟨by omega, set_get_same _ _ _ hlx, fun t ht => by rw [set_get_other _ _ _ _ (by omega)]; exact h.pref.yes t (by omega)⟩
  have hh : HoldT (xs.set j 0) (ts.set j (ts[j]?.getD 0 + 1)) (900 + (i : Int)) ((j : Int) + 512 * (2 + (i : Int))) 0 ((xs.set j 0).set j (900 + (i : Int))) := .inr (.inr ⟨by omega, j, hf, by rw [htj], rfl, rfl⟩)
  have hss : (xs.set j 0).set j (900 + (i : Int)) = xs.set j (900 + (i : Int)) := List.set_set ..
  rw [hss] at hh
  refine ⟨_, _, _, hd, hok, hh, fun hi => ⟨hh.ok hok (by omega), h.pref.turn hj hlx _ (by omega), by rw [List.length_set]; exact h.len, fun t ht => ?_, by rw [htj]; omega, fun t ht hne => ?_, fun _ => ?_⟩, ?_⟩
  · by_cases e : j = t
    · subst e; rw [set_get_same _ _ _ (by rw [h.len]; exact hj), htj]
    · rw [set_get_other _ _ _ _ e, set_get_other _ _ _ _ e]; exact h.tell t ht
  · rw [set_get_other _ _ _ _ (fun e => hne e.symm)]; exact h.old t ht hne
  · rw [set_get_same _ _ _ hlx]; omega
  · rintro t ⟨h1, h2, h3⟩
    have := hok.t t h1
    by_cases e : j = t
    · subst e; rw [htj] at h3; omega
    · omega

end Go.Proofs.Ytenggkgmbmboeaa.handleStale
