/-
  Some of gloaminglaw17: addresses by numbers.
-/
import Derived.Test.YtgpidokklhjfdaaGreatRows
import Derived.Test.YtgpidokklhjfdaaGreatPart6
import Derived.Test.YtgpidokklhjfdaaGreatPart7
import Derived.Test.YtgpidokklhjfdaaGreatPart2
import Derived.Test.YtgpidokklhjfdaaGreatPart3
namespace Go.Proofs.YtgpidokklhjfdaaGreat
open Go.RowKit

theorem Tryz.infoInt17 : (Tryz.prog.info? 3).map (fun i => (i.zero, i.size, i.bytes)) = some (some (.int .i64 0), 1, 8) := by kernel_rfl
def someF (L : List Int) (n : Nat) (B : Nat → Nat) (i : Nat) : Int := if 0 < n ∧ B i < 230 then L[B i % n]?.getD 0 else (B i : Int) - 231
def someL (L : List Int) (n : Nat) (B : Nat → Nat) (t : Nat) : List Int := (List.range t).map (someF L n B)
theorem someL_length (L : List Int) (n : Nat) (B : Nat → Nat) (t : Nat) : (someL L n B t).length = t := by simp [someL]
theorem someL_snoc (L : List Int) (n : Nat) (B : Nat → Nat) (t : Nat) : someL L n B (t + 1) = someL L n B t ++ [someF L n B t] := by simp [someL, List.range_succ]
theorem someF_in {L : List Int} {n : Nat} {B : Nat → Nat} (hL : ∀ t : Nat, inI (L[t]?.getD 0)) (hB : ∀ i, B i < 256) (i : Nat) : inI (someF L n B i) := by
  unfold someF
  split
  · exact hL _
  · have := hB i; unfold inI; omega
theorem someL_in {L : List Int} {n : Nat} {B : Nat → Nat} (hL : ∀ t : Nat, inI (L[t]?.getD 0)) (hB : ∀ i, B i < 256) (t : Nat) : inR (someL L n B t) := by
  intro i
  by_cases h : i < t
  · rw [show (someL L n B t)[i]?.getD 0 = someF L n B i by simp [someL, h]]; exact someF_in hL hB i
  · rw [List.getElem?_eq_none (by rw [someL_length]; omega)]; simp

set_option maxRecDepth 100000 in
set_option maxHeartbeats 3200000 in
theorem some_any (la : Option Addr) (n lc : Nat) (L : List Int) (no : Option Addr) (m nc : Nat) (B : Nat → Nat) (mo : Nat) (w : World) (hA : IntsAt w la L) (hn : L.length = n) (hU : U8At w no m B) (hl : n ≤ 1000) (hm : mo ≤ 100) (hm63 : m ≤ 9223372036854775807) :
    Calls Tryz.prog 9 #[.slice la n lc, .slice no m nc, .int .i64 mo] w fun e w' => ∃ (v : Value) (q : Nat), e = .returned v ∧ w'.ownsRow w.heap.size 3 1 v q (ints (someL L n B (min m mo))) ∧ Keep [] w w' := by
  obtain ⟨i0, hi, hz0, hz1, hz2⟩ := info_parts Tryz.infoInt17
  have hI : Hid (Tryz.prog.info? 3 = some i0 ∧ i0.zero = some (.int .i64 0) ∧ i0.size = 1 ∧ i0.bytes = 8) := ⟨hi, hz0, hz1, hz2⟩
  have HA := hid hA
  have HN := hid hn
  have HU := hid hU
  clear hA hn hi hz0 hz1 hz2 hU
  go_enter Tryz.func9, Tryz.ntmps9
  go_wp2_with fail
  go_loopw [7, 8] (fun v i wr => ∃ (j : Nat) (vv : Value), vv = v ∧ j ≤ m ∧ j ≤ mo ∧ i = .int .i64 j ∧ Hid (wr.ownsRow w.heap.size 3 1 v j (ints (someL L n B j))) ∧ Keep [] w wr) (fun _ i _ => mo - (intOf i).toNat)
  case atStart => exact ⟨0, _, rfl, by omega, by omega, rfl, World.ownsRow_nil _ _ _ _, Keep.refl _ _⟩
  case round =>
    obtain ⟨j, v, hvv, hjm, hjo, rfl, HO, hK⟩ := hrel
    subst hvv
    by_cases hlt : j < m ∧ j < mo
    · obtain ⟨hlm, hlo⟩ := hlt
      have d1 : decide ((j : Int) < (m : Int)) = true := decide_eq_true (by omega)
      have d2 : decide ((j : Int) < (mo : Int)) = true := decide_eq_true (by omega)
      obtain ⟨nb, no', rfl, hnb, hcn⟩ := HU.out.cells (by omega)
      have hcx := (hK.cell hnb (by simp) (no' + j)).trans (hcn j hlm)
      have hB := HU.out.lt j
      have HIn := (show Hid (inI (someF L n B j)) from someF_in (fun t => ⟨HA.out.low t, HA.out.high t⟩) HU.out.lt j)
      have HS := hid (someL_snoc L n B j)
      by_cases hc : 0 < n ∧ B j < 230
      · have HF := (show Hid (someF L n B j = L[B j % n]?.getD 0) from by show _ = _; unfold someF; rw [if_pos hc])
        obtain ⟨h0, h230⟩ := hc
        have d3 : decide (0 < (n : Int)) = true := decide_eq_true (by omega)
        obtain ⟨b0, hb0⟩ : ∃ b0, B j = b0 := ⟨_, rfl⟩
        rw [hb0] at hcx hB h230 HF
        have d4 : decide ((b0 : Int) < 230) = true := decide_eq_true (by omega)
        obtain ⟨r, hr⟩ : ∃ r, b0 % n = r := ⟨_, rfl⟩
        have hri : (b0 : Int) % (n : Int) = r := by rw [← hr]; rfl
        have hrt : (b0 : Int).tmod (n : Int) = r := by rw [Int.tmod_eq_emod_of_nonneg (by omega)]; exact hri
        have hrn : r < n := by rw [← hr]; exact Nat.mod_lt _ h0
        obtain ⟨b, off, rfl, hbs, hcell⟩ := HA.out.cells (by have := HN.out; omega)
        have hcy := (hK.cell hbs (by simp) (off + r)).trans (hcell r (by have := HN.out; omega))
        rw [hr] at HF
        rw [HF.out] at HS HIn
        clear hcell hcn hr hb0 HF
        generalize L[r]?.getD 0 = y at *
        go_wp2_with (at_builtin; refine append_ints rfl (.tmp 30) (.tmp 42) 25 rfl w.heap.size 3 i0 Tryz.underlying25 hI.out _ j (someL L n B j) [y] rfl (HO.out.alloc _) (some ⟨wr.heap.size, 0, none⟩) 1 1 rfl rfl (IntsAt.single wr 3 y HIn.out.1 HIn.out.2) (fun e => by cases e) (by omega) (by have := hK.size; simp; omega) ?_; intro v' w5 hown5 hgrow)
        have HO5 := (show Hid (w5.ownsRow w.heap.size 3 1 v' (j + 1) (ints (someL L n B (j + 1)))) from by
          show World.ownsRow _ _ _ _ _ _ _
          rw [HS.out]; exact hown5)
        have hK5 : Keep [] w w5 := (hK.trans (Keep.alloc [] _ _)).grown hgrow (own_block HO.out)
        clear hown5 hgrow hK HS
        go_wp2_with fail
        go_roundw
        case rel => exact ⟨j + 1, _, rfl, by omega, by omega, by go_num, HO5, hK5⟩
        case measure => simp [intOf]; omega
      · have HF := (show Hid (someF L n B j = (B j : Int) - 231) from by show _ = _; unfold someF; rw [if_neg hc])
        obtain ⟨b0, hb0⟩ : ∃ b0, B j = b0 := ⟨_, rfl⟩
        rw [hb0] at hcx hB hc HF
        rw [HF.out] at HS HIn
        clear hcn hb0 HF
        have hcase : (n = 0) ∨ (0 < n ∧ 230 ≤ b0) := by omega
        rcases hcase with h0 | ⟨h0, h230⟩
        · have d3 : decide (0 < n) = false := decide_eq_false (by omega)
          clear h0
          go_wp2_with (at_builtin; refine append_ints rfl (.tmp 44) (.tmp 51) 25 rfl w.heap.size 3 i0 Tryz.underlying25 hI.out _ j (someL L n B j) [(b0 : Int) - 231] rfl (HO.out.alloc _) (some ⟨wr.heap.size, 0, none⟩) 1 1 rfl rfl (IntsAt.single wr 3 _ HIn.out.1 HIn.out.2) (fun e => by cases e) (by omega) (by have := hK.size; simp; omega) ?_; intro v' w5 hown5 hgrow)
          have HO5 := (show Hid (w5.ownsRow w.heap.size 3 1 v' (j + 1) (ints (someL L n B (j + 1)))) from by
            show World.ownsRow _ _ _ _ _ _ _
            rw [HS.out]; exact hown5)
          have hK5 : Keep [] w w5 := (hK.trans (Keep.alloc [] _ _)).grown hgrow (own_block HO.out)
          clear hown5 hgrow hK HS
          go_wp2_with fail
          go_roundw
          case rel => exact ⟨j + 1, _, rfl, by omega, by omega, by go_num, HO5, hK5⟩
          case measure => simp [intOf]; omega
        · have d3 : decide (0 < (n : Int)) = true := decide_eq_true (by omega)
          have d4 : decide ((b0 : Int) < 230) = false := decide_eq_false (by omega)
          go_wp2_with (at_builtin; refine append_ints rfl (.tmp 44) (.tmp 51) 25 rfl w.heap.size 3 i0 Tryz.underlying25 hI.out _ j (someL L n B j) [(b0 : Int) - 231] rfl (HO.out.alloc _) (some ⟨wr.heap.size, 0, none⟩) 1 1 rfl rfl (IntsAt.single wr 3 _ HIn.out.1 HIn.out.2) (fun e => by cases e) (by omega) (by have := hK.size; simp; omega) ?_; intro v' w5 hown5 hgrow)
          have HO5 := (show Hid (w5.ownsRow w.heap.size 3 1 v' (j + 1) (ints (someL L n B (j + 1)))) from by
            show World.ownsRow _ _ _ _ _ _ _
            rw [HS.out]; exact hown5)
          have hK5 : Keep [] w w5 := (hK.trans (Keep.alloc [] _ _)).grown hgrow (own_block HO.out)
          clear hown5 hgrow hK HS
          go_wp2_with fail
          go_roundw
          case rel => exact ⟨j + 1, _, rfl, by omega, by omega, by go_num, HO5, hK5⟩
          case measure => simp [intOf]; omega
    · have hmin : min m mo = j := by omega
      have hown := HO.out
      rw [← hmin] at hown
      have HO2 := hid hown
      clear hown
      by_cases hlm : j < m
      · have d1 : decide ((j : Int) < (m : Int)) = true := decide_eq_true (by omega)
        have d2 : decide ((j : Int) < (mo : Int)) = false := decide_eq_false (by omega)
        go_wp2_with fail
        go_ret
        exact ⟨v, _, rfl, HO2.out, hK⟩
      · have d1 : decide ((j : Int) < (m : Int)) = false := decide_eq_false (by omega)
        go_wp2_with fail
        go_ret
        exact ⟨v, _, rfl, HO2.out, hK⟩

end Go.Proofs.YtgpidokklhjfdaaGreat
