/-
  ObjectMade: so of what is asked by numbers.
-/
import Derived.Test.YtdpaffnpedcmpaaGreatPart7
import Derived.Test.YtdpaffnpedcmpaaGreatAsks9
namespace Go.Proofs.YtdpaffnpedcmpaaGreat.objectMade
open Go.RowKit

set_option maxRecDepth 100000 in
set_option maxHeartbeats 3200000 in
theorem made_any (a : Nat) (ao : Option Addr) (n cp : Nat) (A : Nat → Nat) (w : World) (ha : a ≤ 255) (hn : n ≤ 9223372036854775807) (hA : U8At w ao n A) :
    Calls Tryz.prog 4 #[.int .u8 a, .slice ao n cp] w fun e w' => e = .returned (.bool true) ∧ Keep [] w w' := by
  have HA := (show Hid (U8At w ao n A) from hA)
  clear hA
  obtain ⟨q, hq, hq12⟩ := rem_nat a 12 (by omega)
  have hq' : (a : Int).tmod 12 = q := hq
  clear hq
  have hq1 : 1 ≤ 2 + q := by omega
  have hq2 : 2 + q ≤ 256 := by omega
  go_enter Tryz.func4, Tryz.ntmps4
  go_wp2_with (first | (go_at_call 7; refine (lasks ao n cp A _ hn HA.out).mono ?_; rintro e w1 ⟨la, lq, lc, B, rfl, hB, hK1⟩; have HB := (show Hid (AskAt w1 la lq lq B) from hB); have hl := hB.few.2.1; clear hB) | (go_at_call 6; refine (runs_any la lq lc lq (2 + q) B _ HB.out hq1 hq2 (by omega)).mono ?_; rintro e w2 ⟨rfl, hK2⟩) | (go_at_call 5; refine (awake9_any _).mono ?_; rintro e w3 ⟨rfl, hK3⟩))
  go_ret
  exact ⟨rfl, (hK1.trans hK2).trans hK3⟩

theorem walk (a0 : Int) (o1 : Option Addr) (len1 cap1 : Nat) (A1 : Nat → Nat) (w0 : (Lit.int .u8 a0).wf = true) (w1 : len1 ≤ 9223372036854775807) (w : World) (u1 : U8At w o1 len1 A1) :
    Calls Tryz.prog 4 #[.int .u8 a0, .slice o1 len1 cap1] w fun e w' => e = .returned (.bool true) ∧ Keep [] w w' := by
  have h0 := bounds_u8 w0
  obtain ⟨n, rfl⟩ := Int.eq_ofNat_of_zero_le h0.1
  exact made_any n o1 len1 cap1 A1 w (by omega) w1 u1

end Go.Proofs.YtdpaffnpedcmpaaGreat.objectMade
