/-
  ObjectRuns: whatever is made, put, freed: each address, each error, each head, each field, all objects, are the document's.
-/
import Derived.Test.YtdpaffnpedcmpaaGreatPart7
import Derived.Test.YtdpaffnpedcmpaaGreatOpenAsk9
namespace Go.Proofs.YtdpaffnpedcmpaaGreat.objectRuns
open Go.RowKit

theorem pages_rem (a m : Nat) (hm : 0 < m) : ∃ q : Nat, (a : Int).tmod (m : Int) = q ∧ q < m := by
  refine ⟨a % m, ?_, Nat.mod_lt _ hm⟩
  rw [Int.tmod_eq_emod_of_nonneg (by omega)]
  rfl

set_option maxRecDepth 100000 in
set_option maxHeartbeats 3200000 in
theorem all_any (a : Nat) (ao : Option Addr) (n cp : Nat) (A : Nat → AV) (w : World) (ha : a ≤ 255) (hn : n ≤ 9223372036854775807) (hA : Ask9At w ao n A) :
    Calls Tryz.prog 3 #[.int .u8 a, .slice ao n cp] w fun e w' => e = .returned (.bool true) ∧ Keep [] w w' := by
  have HA := (show Hid (Ask9At w ao n A) from hA)
  clear hA
  obtain ⟨q, hq, hq20⟩ := pages_rem a 20 (by omega)
  have hq' : (a : Int).tmod 20 = q := hq
  clear hq
  go_enter Tryz.func3, Tryz.ntmps3
  go_wp2_with fail
  go_loopw [5] (fun i wr => ∃ j : Nat, i = .int .i64 j ∧ j ≤ n ∧ j ≤ 60 ∧ Hid (∀ t, t < j → (A t).cL.length ≤ 40) ∧ w = wr) (fun i _ => 60 - (intOf i).toNat)
  case atStart => exact ⟨0, rfl, by omega, by omega, fun t h => by omega, rfl⟩
  case round =>
    obtain ⟨j, rfl, hj, hj6, HL, rfl⟩ := hrel
    by_cases hlt : j < n ∧ j < 60
    · obtain ⟨hjn, hj60⟩ := hlt
      obtain ⟨b, off, rfl, hbs, hcell⟩ := HA.out.cells (by omega)
      have hc := hcell j 6 hjn (by omega)
      simp only [AV.cells, List.getElem?_cons_succ, List.getElem?_cons_zero, ← Nat.add_assoc] at hc
      obtain ⟨m, hm⟩ : ∃ m, (A j).cL.length = m := ⟨_, rfl⟩
      have hm2 := (HA.out.ok j hjn).2
      rw [hm] at hc hm2
      have HM := (show Hid ((A j).cL.length = m) from hm)
      clear hm hcell
      by_cases h40 : m ≤ 40
      · have d : decide (40 < (m : Int)) = false := decide_eq_false (by omega)
        have HL2 := (show Hid (∀ t, t < j + 1 → (A t).cL.length ≤ 40) from by
          intro t ht
          by_cases e : t = j
          · subst e; rw [HM.out]; exact h40
          · exact HL.out t (by omega))
        clear h40
        go_wp2_with fail
        go_roundw
        case rel => exact ⟨j + 1, by go_num, by omega, by omega, HL2, trivial⟩
        case measure => simp [intOf]; omega
      · have d : decide (40 < (m : Int)) = true := decide_eq_true (by omega)
        clear h40
        go_wp2_with (first | (go_at_call 5; refine (awake9_any _).mono ?_; rintro e w1 ⟨rfl, hK1⟩))
        go_ret
        exact ⟨rfl, hK1⟩
    · have HAT := (show Hid (AskAt w ao n j A) from
        ⟨fun h => by
          obtain ⟨b, off, e, hbs, hcell⟩ := HA.out.cells (by omega)
          exact ⟨b, off, e, hbs, fun i t hi ht => hcell i t (by omega) ht⟩,
        fun i hi => ⟨(HA.out.ok i (by omega)).1, by have := HL.out i hi; omega⟩,
        by omega, hj6, by omega⟩)
      have hq1 : 1 ≤ 1 + q := by omega
      have hq2 : 1 + q ≤ 256 := by omega
      rcases (show (¬ j < n) ∨ (j < n ∧ ¬ j < 60) by omega) with hjn | ⟨hjn, hj60⟩
      all_goals (
        clear hlt HL
        go_wp2_with (first | (go_at_call 6; refine (runs_any ao n cp j (1 + q) A _ HAT.out hq1 hq2 hn).mono ?_; rintro e w1 ⟨rfl, hK1⟩) | (go_at_call 5; refine (awake9_any _).mono ?_; rintro e w2 ⟨rfl, hK2⟩))
        go_ret
        exact ⟨rfl, hK1.trans hK2⟩)

theorem walk (a0 : Int) (o1 : Option Addr) (len1 cap1 : Nat) (A1 : Nat → AV) (w0 : (Lit.int .u8 a0).wf = true) (w1 : len1 ≤ 9223372036854775807) (w : World) (u1 : Ask9At w o1 len1 A1) :
    Calls Tryz.prog 3 #[.int .u8 a0, .slice o1 len1 cap1] w fun e w' => e = .returned (.bool true) ∧ Keep [] w w' := by
  have h0 := bounds_u8 w0
  obtain ⟨n, rfl⟩ := Int.eq_ofNat_of_zero_le h0.1
  exact all_any n o1 len1 cap1 A1 w (by omega) w1 u1

end Go.Proofs.YtdpaffnpedcmpaaGreat.objectRuns
