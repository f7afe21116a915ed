/-
  BitsFound answers true, whatever it is given.
-/
import Derived.Test.YtlknacpnckiklaaAwake2
import Derived.Test.YtlknacpnckiklaaOpens
namespace Go.Proofs.Ytlknacpnckiklaa
open Go.RowKit

/-- z is the first place from i on that is so, or 256. -/
def LastIs (xs : List Bool) (i : Nat) (z : Int) : Prop := (nextR xs i true = -1 ∧ z = 256) ∨ (0 ≤ z ∧ z < 256 ∧ nextR xs i true = z)
theorem LastIs.start (xs : List Bool) (h : xs.length = 256) : LastIs xs 256 256 := .inl ⟨nextR_end _ _ _ (by omega), rfl⟩
theorem LastIs.hit {xs : List Bool} {k : Nat} (h : xs.length = 256) (hk : k < 256) (hv : xs[k]?.getD false = true) : LastIs xs k k := .inr ⟨by omega, by omega, nextR_yes _ _ _ (by omega) hv⟩
theorem LastIs.miss {xs : List Bool} {k : Nat} {z : Int} (l : LastIs xs (k + 1) z) (h : xs.length = 256) (hk : k < 256) (hv : xs[k]?.getD false = false) : LastIs xs k z := by
  have e := nextR_no xs k true (by omega) (by rw [hv]; simp)
  unfold LastIs at l ⊢
  rw [e]; exact l

/-- What the walk through runs has found. -/
def FirstIs (xs : List Bool) (s q : Nat) (z p : Int) : Prop := (z = -1 ∧ runR xs q s = p) ∨ (0 ≤ z ∧ z = p)
theorem FirstIs.over {xs : List Bool} {s q : Nat} {z p : Int} (h : FirstIs xs s q z p) (hs : xs.length < q + s) : z = p := by
  rcases h with ⟨h1, h2⟩ | ⟨_, h⟩
  · rw [h1, ← h2, runR_end _ _ _ hs]
  · exact h
theorem FirstIs.past {xs : List Bool} {s q : Nat} {z p : Int} (h : FirstIs xs s q z p) (hs : 0 ≤ z) : z = p := by
  rcases h with ⟨h1, h2⟩ | ⟨_, h⟩
  · omega
  · exact h
theorem FirstIs.run {xs : List Bool} {s q : Nat} {z p : Int} (h : FirstIs xs s q z p) (hs : z < 0) : z = -1 ∧ runR xs q s = p := by
  rcases h with h | ⟨h, _⟩
  · exact h
  · omega

set_option maxRecDepth 100000 in
set_option maxHeartbeats 8000000 in
theorem found_any (ao : Option Addr) (n c fr kk : Nat) (A : Nat → Nat) (w : World) (hn : n ≤ 9223372036854775807) (hl : U8At w ao n A) (hfr : fr < 256) (hkk : kk < 256) :
    Calls Try.prog 4 #[.slice ao n c, .int .u8 fr, .int .u8 kk] w fun e w' => e = .returned (.bool true) ∧ Keep [] w w' := by
  obtain ⟨s, hs1, hs2, hs3⟩ : ∃ s : Nat, 1 + (kk : Int) % 20 = s ∧ 1 ≤ s ∧ s ≤ 20 := ⟨1 + kk % 20, by omega, by omega, by omega⟩
  have HS := (show Hid (1 + (kk : Int) % 20 = s) from hs1)
  clear hs1
  go_enter Try.func4, Try.ntmps4
  go_wp2_with fail
  refine (bnew_ok 256 w (by omega)).mono ?_
  rintro e w1 ⟨b, g, rfl, hA, hK, hb, hg⟩
  go_wp2_with (first | (go_at_call 9; refine (err_any _ _).mono ?_; rintro e w' ⟨rfl, rfl⟩))
  have HN := (show Hid (U8At w ao n A) from hl)
  clear hl
  go_loopw [9] (fun i wr => ∃ (j : Nat) (xs : List Bool), j ≤ n ∧ i = .int .i64 j ∧ IsBits wr b g xs ∧ Hid (xs.length = 256) ∧ Keep [g] w wr) (fun i _ => n - (intOf i).toNat)
  case atStart => exact ⟨0, offs 256, by omega, rfl, hA, offs_length _, hK.mono (by simp)⟩
  case round =>
    obtain ⟨j, xs, hj, rfl, hA2, HL, hK2⟩ := hrel
    clear hA hK
    by_cases hlt : j < n
    · obtain ⟨ab, off, rfl, hab, hcs⟩ := HN.out.cells (by omega)
      have hc := (hK2.cell hab (by simp; omega) (off + j)).trans (hcs j hlt)
      have hlt8 := HN.out.lt j
      clear hcs
      generalize A j = k at *
      have hk : k < xs.length := by rw [HL.out]; exact hlt8
      go_wp2_with fail
      refine (bset_one b g k true _ _ hA2 hk).mono ?_
      rintro e w5 ⟨rfl, hA5, hK5⟩
      go_wp2_with fail
      go_roundw
      case rel => exact ⟨j + 1, xs.set k true, by omega, by go_num, hA5, by show (xs.set k true).length = 256; rw [List.length_set]; exact HL.out, hK2.trans hK5⟩
      case measure => simp [intOf]; omega
    · have hK5 := hK2.drop (T := []) (by simp; omega)
      have hd : decide (j < n) = false := by rw [decide_eq_false_iff_not]; omega
      clear hK2 hlt hj
      obtain ⟨p1, hp1⟩ : ∃ p, nextR xs fr true = p := ⟨_, rfl⟩
      obtain ⟨p2, hp2⟩ : ∃ p, nextR xs fr false = p := ⟨_, rfl⟩
      obtain ⟨p3, hp3⟩ : ∃ p, runR xs fr s = p := ⟨_, rfl⟩
      have H1 := (show Hid (nextR xs ((fr : Int)).toNat true = p1) from by show nextR xs ((fr : Int)).toNat true = p1; rw [Int.toNat_natCast]; exact hp1)
      have H2 := (show Hid (nextR xs ((fr : Int)).toNat false = p2) from by show nextR xs ((fr : Int)).toNat false = p2; rw [Int.toNat_natCast]; exact hp2)
      have H3 := (show Hid (runR xs fr s = p3) from hp3)
      have H4 := (show Hid (runI xs (fr : Int) (s : Int) = p3) from by
        show runI xs (fr : Int) (s : Int) = p3
        unfold runI; rw [if_neg (by omega), Int.toNat_natCast, Int.toNat_natCast]; exact hp3)
      clear hp1 hp2 hp3
      go_wp2_with fail
      refine (bnext_any b g fr true _ _ hA2 (by omega)).mono ?_
      rw [H1.out]; rintro e w5 ⟨rfl, rfl⟩
      go_wp2_with fail
      refine (bnext_any b g fr false _ _ hA2 (by omega)).mono ?_
      rw [H2.out]; rintro e w5 ⟨rfl, rfl⟩
      go_wp2_with fail
      go_loop [12, 13] (fun l i => ∃ (z z1 : Int), l = .int .i64 z ∧ i = .int .i64 z1 ∧ (fr : Int) - 1 ≤ z1 ∧ z1 ≤ 255 ∧ Hid (LastIs xs (z1 + 1).toNat z)) (fun _ i => (intOf i + 1).toNat)
      case atStart => exact ⟨256, 255, rfl, rfl, by omega, by omega, LastIs.start xs HL.out⟩
      case round =>
        obtain ⟨z, z1, rfl, rfl, hz1, hz2, HW⟩ := hrel
        by_cases hge : (fr : Int) ≤ z1
        · obtain ⟨k, rfl⟩ := Int.eq_ofNat_of_zero_le (show 0 ≤ z1 by omega)
          rw [show ((k : Int) + 1).toNat = k + 1 by omega] at HW
          have hh := has_nat xs k (by rw [HL.out]; omega)
          by_cases hv : xs[k]?.getD false = true
          · have HK := (show Hid (LastIs xs ((k : Int) - 1 + 1).toNat k) from by rw [show ((k : Int) - 1 + 1).toNat = k by omega]; exact LastIs.hit HL.out (by omega) hv)
            rw [hv] at hh
            have HH := (show Hid (hasR xs k = true) from hh)
            clear hh hv HW
            go_wp2_with (go_at_call 17; refine (bhas_any b g k _ _ hA2).mono ?_; rw [HH.out]; rintro e w' ⟨rfl, rfl⟩)
            go_round
            case rel => exact ⟨_, _, rfl, rfl, by omega, by omega, HK⟩
            case measure => simp [intOf] <;> omega
          · have hv' : xs[k]?.getD false = false := by simpa using hv
            have HK := (show Hid (LastIs xs ((k : Int) - 1 + 1).toNat z) from by rw [show ((k : Int) - 1 + 1).toNat = k by omega]; exact HW.out.miss HL.out (by omega) hv')
            rw [hv'] at hh
            have HH := (show Hid (hasR xs k = false) from hh)
            clear hh hv hv' HW
            go_wp2_with (go_at_call 17; refine (bhas_any b g k _ _ hA2).mono ?_; rw [HH.out]; rintro e w' ⟨rfl, rfl⟩)
            go_round
            case rel => exact ⟨_, _, rfl, rfl, by omega, by omega, HK⟩
            case measure => simp [intOf] <;> omega
        · have hd1 : decide ((fr : Int) ≤ z1) = false := by rw [decide_eq_false_iff_not]; exact hge
          have hW := HW.out
          rw [show (z1 + 1).toNat = fr by omega] at hW
          have h1 := H1.out
          rw [Int.toNat_natCast] at h1
          unfold LastIs at hW
          rw [h1] at hW
          clear h1 HW H1 hge
          rcases hW with ⟨rfl, rfl⟩ | ⟨hz3, hz4, rfl⟩
          all_goals
            try have hz0 : (p1 == 256) = false := by rw [beq_eq_false_iff_ne]; omega
            go_wp2_with fail
            go_loop [14, 15] (fun l i => ∃ (z z1 : Int), l = .int .i64 z ∧ i = .int .i64 z1 ∧ (fr : Int) - 1 ≤ z1 ∧ z1 ≤ 255 ∧ Hid (nextR xs (z1 + 1).toNat false = z)) (fun _ i => (intOf i + 1).toNat)
            case atStart => exact ⟨-1, 255, rfl, rfl, by omega, by omega, nextR_end _ _ _ (by rw [HL.out]; decide)⟩
            case round =>
              obtain ⟨z, z2, rfl, rfl, hz5, hz6, HW⟩ := hrel
              by_cases hge : (fr : Int) ≤ z2
              · obtain ⟨k, rfl⟩ := Int.eq_ofNat_of_zero_le (show 0 ≤ z2 by omega)
                rw [show ((k : Int) + 1).toNat = k + 1 by omega] at HW
                have hh := has_nat xs k (by rw [HL.out]; omega)
                by_cases hv : xs[k]?.getD false = true
                · have HK := (show Hid (nextR xs ((k : Int) - 1 + 1).toNat false = z) from by
                    show nextR xs ((k : Int) - 1 + 1).toNat false = z
                    rw [show ((k : Int) - 1 + 1).toNat = k by omega, nextR_no _ _ _ (by rw [HL.out]; omega) (by rw [hv]; simp)]; exact HW.out)
                  rw [hv] at hh
                  have HH := (show Hid (hasR xs k = true) from hh)
                  clear hh hv HW
                  go_wp2_with (go_at_call 17; refine (bhas_any b g k _ _ hA2).mono ?_; rw [HH.out]; rintro e w' ⟨rfl, rfl⟩)
                  go_round
                  case rel => exact ⟨_, _, rfl, rfl, by omega, by omega, HK⟩
                  case measure => simp [intOf] <;> omega
                · have hv' : xs[k]?.getD false = false := by simpa using hv
                  have HK := (show Hid (nextR xs ((k : Int) - 1 + 1).toNat false = k) from by
                    show nextR xs ((k : Int) - 1 + 1).toNat false = k
                    rw [show ((k : Int) - 1 + 1).toNat = k by omega, nextR_yes _ _ _ (by rw [HL.out]; omega) hv'])
                  rw [hv'] at hh
                  have HH := (show Hid (hasR xs k = false) from hh)
                  clear hh hv hv' HW
                  go_wp2_with (go_at_call 17; refine (bhas_any b g k _ _ hA2).mono ?_; rw [HH.out]; rintro e w' ⟨rfl, rfl⟩)
                  go_round
                  case rel => exact ⟨_, _, rfl, rfl, by omega, by omega, HK⟩
                  case measure => simp [intOf] <;> omega
              · have hd2 : decide ((fr : Int) ≤ z2) = false := by rw [decide_eq_false_iff_not]; exact hge
                have hW := HW.out
                have h2 := H2.out
                rw [Int.toNat_natCast] at h2
                rw [show (z2 + 1).toNat = fr by omega, h2] at hW
                subst hW
                clear h2 HW H2 hge
                have hs1 := HS.out
                go_wp2_with fail
                refine (brun_any b g fr s _ _ hA2 (by omega) (by omega)).mono ?_
                rw [H4.out]; rintro e w5 ⟨rfl, rfl⟩
                go_wp2_with fail
                go_loop [18, 19] (fun l i => ∃ (z : Int) (q : Nat), l = .int .i64 z ∧ i = .int .i64 q ∧ q ≤ 256 ∧ -1 ≤ z ∧ Hid (FirstIs xs s q z p3)) (fun _ i => 257 - (intOf i).toNat)
                case atStart => exact ⟨-1, fr, rfl, rfl, by omega, by omega, .inl ⟨rfl, H3.out⟩⟩
                case round =>
                  obtain ⟨z, q, rfl, rfl, hq, hz7, HQ⟩ := hrel
                  by_cases hrun : q + s ≤ 256 ∧ z < 0
                  · obtain ⟨hqs, hz8⟩ := hrun
                    obtain ⟨rfl, hrq⟩ := HQ.out.run hz8
                    have HR := (show Hid (runR xs q s = p3) from hrq)
                    clear hrq HQ
                    go_wp2_with fail
                    go_loop [20, 21] (fun f i => ∃ (x : Bool) (q2 : Nat), f = .bool x ∧ i = .int .i64 q2 ∧ q ≤ q2 ∧ q2 ≤ q + s ∧ Hid (x = true ↔ ∀ t, q ≤ t → t < q2 → xs[t]?.getD false = false)) (fun _ i => q + s - (intOf i).toNat)
                    case atStart => exact ⟨true, q, rfl, rfl, by omega, by omega, ⟨fun _ t a b => by omega, fun _ => rfl⟩⟩
                    case round =>
                      obtain ⟨x, q2, rfl, rfl, hq1, hq2, HX⟩ := hrel
                      by_cases hlt2 : q2 < q + s
                      · cases x
                        · have HX2 := (show Hid (false = true ↔ ∀ t, q ≤ t → t < q2 + 1 → xs[t]?.getD false = false) from ⟨fun h => (by cases h), fun h => HX.out.2 (fun t a b => h t a (by omega))⟩)
                          go_wp2_with fail
                          go_round
                          case rel => exact ⟨false, q2 + 1, rfl, by go_num, by omega, by omega, HX2⟩
                          case measure => simp [intOf] <;> omega
                        · have hh := has_nat xs q2 (by rw [HL.out]; omega)
                          have HX2 := (show Hid ((!(xs[q2]?.getD false)) = true ↔ ∀ t, q ≤ t → t < q2 + 1 → xs[t]?.getD false = false) from ⟨fun h t a b => by
                            by_cases e : t = q2
                            · subst e; simpa using h
                            · exact HX.out.1 rfl t a (by omega), fun h => by rw [h q2 (by omega) (by omega)]; rfl⟩)
                          generalize xs[q2]?.getD false = y at *
                          have HH := (show Hid (hasR xs q2 = y) from hh)
                          clear hh HX
                          go_wp2_with (go_at_call 17; refine (bhas_any b g q2 _ _ hA2).mono ?_; rw [HH.out]; rintro e w' ⟨rfl, rfl⟩)
                          go_round
                          case rel => exact ⟨!y, q2 + 1, rfl, by go_num, by omega, by omega, HX2⟩
                          case measure => simp [intOf] <;> omega
                      · have hd3 : decide ((q2 : Int) < (q : Int) + s) = false := by rw [decide_eq_false_iff_not]; omega
                        have hX := HX.out
                        rw [show q2 = q + s by omega] at hX
                        cases x
                        · have HF := (show Hid (FirstIs xs s (q + 1) (-1) p3) from .inl ⟨rfl, by rw [← runR_no xs q s (fun h => by have := hX.2 h.2; cases this)]; exact HR.out⟩)
                          clear hX HX
                          go_wp2_with fail
                          go_round
                          case rel => exact ⟨-1, q + 1, rfl, by go_num, by omega, by omega, HF⟩
                          case measure => simp [intOf] <;> omega
                        · have HF := (show Hid (FirstIs xs s (q + 1) q p3) from .inr ⟨by omega, by rw [← HR.out]; exact (runR_yes xs q s hs2 ⟨by rw [HL.out]; omega, hX.1 rfl⟩).symm⟩)
                          clear hX HX
                          go_wp2_with fail
                          go_round
                          case rel => exact ⟨q, q + 1, rfl, by go_num, by omega, by omega, HF⟩
                          case measure => simp [intOf] <;> omega
                  · have hzp : z = p3 := by
                      by_cases hqs : q + s ≤ 256
                      · exact HQ.out.past (by omega)
                      · exact HQ.out.over (by rw [HL.out]; omega)
                    subst hzp
                    clear HQ H3 H4
                    rcases (show (q + s ≤ 256 ∧ 0 ≤ z) ∨ 256 < q + s by omega) with ⟨hqs, hz8⟩ | hqs
                    all_goals
                      try have hd4 : decide (z < 0) = false := by rw [decide_eq_false_iff_not]; omega
                      try have hd4 : decide ((q : Int) + s ≤ 256) = false := by rw [decide_eq_false_iff_not]; omega
                      clear hrun
                      go_wp2_with (first | (go_at_call 13; refine (bnext_nil _ _ _).mono ?_; rintro e w' ⟨rfl, rfl⟩) | (go_at_call 15; refine (brun_nil _ _ _).mono ?_; rintro e w' ⟨rfl, rfl⟩) | (go_at_call 21; refine (bsize_nil _).mono ?_; rintro e w' ⟨rfl, rfl⟩) | (go_at_call 19; refine (bcount_nil _).mono ?_; rintro e w' ⟨rfl, rfl⟩) | (go_at_call 17; refine (bhas_nil _ _).mono ?_; rintro e w' ⟨rfl, rfl⟩) | (go_at_call 11; refine (bset_nil _ _ _).mono ?_; rintro e w' ⟨rfl, rfl⟩) | (go_at_call 9; refine (err_any _ _).mono ?_; rintro e w' ⟨rfl, rfl⟩) | (go_at_call 10; refine (awake2_any _).mono ?_; rintro e w8 ⟨rfl, hK8⟩))
                      go_ret
                      exact ⟨rfl, hK5.trans ((Keep.alloc [] _ _).trans hK8)⟩

end Go.Proofs.Ytlknacpnckiklaa

namespace Go.Proofs.Ytlknacpnckiklaa.bitsFound
open Go.RowKit
theorem walk (o0 : Option Addr) (len0 cap0 : Nat) (A0 : Nat → Nat) (a1 a2 : Int) (w0 : len0 ≤ 9223372036854775807) (w1 : (Lit.int .u8 a1).wf = true) (w2 : (Lit.int .u8 a2).wf = true) (w : World) (u0 : U8At w o0 len0 A0) :
    Calls Try.prog 4 #[.slice o0 len0 cap0, .int .u8 a1, .int .u8 a2] w fun e w' => e = .returned (.bool true) ∧ Keep [] w w' := by
  have h1 := bounds_u8 w1
  have h2 := bounds_u8 w2
  obtain ⟨f, rfl⟩ := Int.eq_ofNat_of_zero_le h1.1
  obtain ⟨k, rfl⟩ := Int.eq_ofNat_of_zero_le h2.1
  exact found_any o0 len0 cap0 f k A0 w w0 u0 (by omega) (by omega)
end Go.Proofs.Ytlknacpnckiklaa.bitsFound
