/-
  Package handle: what All and Room answer; a list of what is held, in memory that is new.
-/
import Derived.Test.YtenggkgmbmboeaaHand
import Derived.Deep.RegionLaw
namespace Go.Proofs.Ytenggkgmbmboeaa
open Go.RowKit

theorem Try.infoHeld : (Try.prog.info? 33).map (fun i => (i.zero, i.size, i.bytes)) = some (some (.agg #[.int .i64 0, .int .i64 0]), 2, 16) := by kernel_rfl

def heldC (p : Int × Int) : List Value := [.int .i64 p.1, .int .i64 p.2]
def flatH (l : List (Int × Int)) : List Value := (l.map heldC).flatten
theorem flatH_snoc (l : List (Int × Int)) (p : Int × Int) : flatH (l ++ [p]) = flatH l ++ heldC p := by simp [flatH]
/-- A list of handles and addresses, in memory that is younger than w0. -/
structure HeldsAt (w0 w : World) (va : Option Addr) (n vc : Nat) (l : List (Int × Int)) : Prop where
  own : w.ownsRow w0.heap.size 33 2 (.slice va n vc) n (flatH l)
  len : l.length = n
theorem HeldsAt.nil (w0 w : World) : HeldsAt w0 w none 0 0 [] := ⟨⟨rfl, .inl ⟨rfl, rfl⟩⟩, rfl⟩
theorem HeldsAt.far {w0 w : World} {va : Option Addr} {n vc : Nat} {l : List (Int × Int)} (h : HeldsAt w0 w va n vc l) (a : Addr) (e : va = some a) : w0.heap.size ≤ a.block ∧ a.block < w.heap.size := own_far h.own a e
theorem HeldsAt.keep {S : List Nat} {w0 w w' : World} {va : Option Addr} {n vc : Nat} {l : List (Int × Int)} (h : HeldsAt w0 w va n vc l) (k : Keep S w w') (hS : ∀ x, x ∈ S → x < w0.heap.size) : HeldsAt w0 w' va n vc l := ⟨own_keep h.own k hS, h.len⟩
theorem HeldsAt.base {w0 w1 w : World} {va : Option Addr} {n vc : Nat} {l : List (Int × Int)} (h : HeldsAt w1 w va n vc l) (hs : w0.heap.size ≤ w1.heap.size) : HeldsAt w0 w va n vc l := ⟨own_base h.own hs, h.len⟩
theorem HeldsAt.cells {w0 w : World} {va : Option Addr} {n vc : Nat} {l : List (Int × Int)} (h : HeldsAt w0 w va n vc l) (h0 : 0 < n) :
    ∃ b, va = some ⟨b, 0, none⟩ ∧ w0.heap.size ≤ b ∧ b < w.heap.size ∧ ∀ (i : Nat) (p : Int × Int), l[i]? = some p → w.cell? ⟨b, i * 2, none⟩ = some (.int .i64 p.1) ∧ w.cell? ⟨b, i * 2 + 1, none⟩ = some (.int .i64 p.2) := by
  obtain ⟨b, h1, h2, h3, h4⟩ := wide_cells (m := 2) (vs := l.map heldC) h.own (fun v hv => by
    obtain ⟨p, _, rfl⟩ := List.mem_map.1 hv
    rfl) (by rw [List.length_map]; exact h.len) h0
  refine ⟨b, h1, h2, h3, fun i p e => ?_⟩
  have e1 : (l.map heldC)[i]? = some (heldC p) := by rw [List.getElem?_map, e]; rfl
  exact ⟨h4 i _ 0 e1 (by omega), h4 i _ 1 e1 (by omega)⟩
theorem HeldsAt.grow {w0 w w4 : World} {va : Option Addr} {n vc : Nat} {l : List (Int × Int)} {ob : Obj} (h : HeldsAt w0 w va n vc l) (K : Keep [] w0 w) (hg : (w.alloc ob).grownBy w4 (Value.slice va n vc).ownBlock) : Keep [] w0 w4 :=
  (K.trans (Keep.alloc [] w ob)).grown hg (fun _ e => own_block h.own _ e)
theorem oneCells2 (a k : Int) : ∀ u ∈ [Value.int .i64 a, .int .i64 k], u.oneCell' = true := by
  intro u hu
  simp at hu
  rcases hu with rfl | rfl <;> rfl
theorem allTo_yes {xs ts : List Int} {n : Nat} (h : xs[n]?.getD 0 ≠ 0) : allTo xs ts (n + 1) = allTo xs ts n ++ [((n : Int) + 512 * ts[n]?.getD 0, xs[n]?.getD 0)] := by
  show (if xs[n]?.getD 0 = 0 then _ else _) = _
  rw [if_neg h]
theorem allTo_no {xs ts : List Int} {n : Nat} (h : xs[n]?.getD 0 = 0) : allTo xs ts (n + 1) = allTo xs ts n := by
  show (if xs[n]?.getD 0 = 0 then _ else _) = _
  rw [if_pos h]
theorem allTo_le (xs ts : List Int) (n : Nat) : (allTo xs ts n).length ≤ n := by have := allTo_len xs ts n; omega

set_option maxHeartbeats 1600000 in
theorem hall_nil (w : World) :
    Calls Try.prog 22 #[.pointer none] w fun e w' => e = .returned (.slice none 0 0) ∧ w = w' := by
  go_enter Try.func22, Try.ntmps22
  go_wp2
  go_ret
  exact ⟨rfl, rfl⟩

set_option maxRecDepth 100000 in
set_option maxHeartbeats 3200000 in
theorem hall {B : Nat} (b : Nat) (xs ts : List Int) (w : World) (h : IsHand w b xs ts) (hk : HOK B xs ts) (hB : B ≤ 1000000) :
    Calls Try.prog 22 #[.pointer (some ⟨b, 0, none⟩)] w fun e w' => ∃ va vc, e = .returned (.slice va (allH xs ts).length vc) ∧ HeldsAt w w' va (allH xs ts).length vc (allH xs ts) ∧ Keep [] w w' := by
  obtain ⟨i0, hi, hz0, hz1, hz2⟩ := info_parts Try.infoHeld
  have hI : Hid (Try.prog.info? 33 = some i0 ∧ i0.zero = some (.agg #[.int .i64 0, .int .i64 0]) ∧ i0.size = 2 ∧ i0.bytes = 16) := ⟨hi, hz0, hz1, hz2⟩
  clear hi hz0 hz1 hz2
  have HH := (show Hid (IsHand w b xs ts) from h)
  have HK := (show Hid (HOK B xs ts) from hk)
  clear h hk
  go_enter Try.func22, Try.ntmps22
  go_wp2
  go_loopw [3, 4, 5, 8] (fun v v4 v5 i wr => ∃ (j q : Nat) (va : Option Addr) (vc : Nat) (v4' v5' : Value), v4' = v4 ∧ v5' = v5 ∧ v = .slice va q vc ∧ i = .int .i64 j ∧ j ≤ 512 ∧ q ≤ j ∧ Hid (HeldsAt w wr va q vc (allTo xs ts j)) ∧ Keep [] w wr) (fun _ _ _ i _ => 512 - (intOf i).toNat)
  case atStart => exact ⟨0, 0, none, 0, _, _, rfl, rfl, rfl, rfl, by omega, by omega, HeldsAt.nil _ _, Keep.refl _ _⟩
  case round =>
    obtain ⟨j, q, va, vc, v4', v5', rfl, rfl, rfl, rfl, hj, hq, HO, hK⟩ := hrel
    by_cases hlt : j < 512
    · obtain ⟨c0, c1, _, _⟩ := (HH.out.keep hK (by simp)).at j hlt
      by_cases hx : xs[j]?.getD 0 = 0
      · rw [hx] at c1
        have HO2 := (show Hid (HeldsAt w wr va q vc (allTo xs ts (j + 1))) from by rw [allTo_no hx]; exact HO.out)
        clear hx HO
        go_wp2_with (first | (go_at_call 27; refine (holds_any b (j * 2) _ _ c1).mono ?_; rintro e w' ⟨rfl, rfl⟩))
        go_roundw
        case rel => exact ⟨j + 1, q, va, vc, _, _, rfl, rfl, rfl, by go_num, by omega, by omega, HO2, hK⟩
        case measure => simp [intOf]; omega
      · have hAT := allTo_yes (ts := ts) hx
        obtain ⟨x, hxe⟩ : ∃ x, xs[j]?.getD 0 = x := ⟨_, rfl⟩
        obtain ⟨N, hN⟩ : ∃ N, (j : Int) + 512 * ts[j]?.getD 0 = N := ⟨_, rfl⟩
        rw [hxe, hN] at hAT
        rw [hxe] at c1 hx
        have HAT := (show Hid (allTo xs ts (j + 1) = allTo xs ts j ++ [(N, x)]) from hAT)
        have HN := (show Hid ((j : Int) + 512 * ts[j]?.getD 0 = N) from hN)
        have hb : (x == 0) = false := by rw [beq_eq_false_iff_ne]; exact hx
        have HW := (show Hid (IsHand wr b xs ts) from HH.out.keep hK (by simp))
        have HWd := (show Hid (IsHand wr.drew b xs ts) from HW.out.keep (Keep.drew [] wr) (by simp))
        obtain ⟨_, c1d, _, _⟩ := HWd.out.at j hlt
        rw [hxe] at c1d
        clear hxe hAT hN hx
        go_wp2_with (first | (go_at_call 27; refine (holds_any b (j * 2) _ _ c1).mono ?_; rw [hb]; rintro e w' ⟨rfl, rfl⟩))
        have HO5 := (show Hid (HeldsAt w wr.drew va q vc (allTo xs ts j)) from HO.out.keep (Keep.drew [] wr) (by simp))
        have HK5 := (show Hid (Keep [] w wr.drew) from hK.trans (Keep.drew [] wr))
        clear HO
        go_region_law (first | (refine step_append_lies _ rfl (.tmp 18) (.tmp 27) 30 rfl w.heap.size 33 i0 (.agg #[.int .i64 0, .int .i64 0]) 2 16 Try.underlying30 hI.out.1 hI.out.2.1 hI.out.2.2.1 hI.out.2.2.2 rfl (by decide) (.slice va q vc) q (flatH (allTo xs ts j)) rfl (HO5.out.keep (Keep.alloc [] wr.drew _) (by simp)).own ⟨wr.drew.heap.size, 0, none⟩ 1 1 [.int .i64 N, .int .i64 x] rfl rfl (World.news_of_block (heap_alloc_new wr.drew _)) (oneCells2 N x) (by omega) (by unfold maxLen; omega) (by omega) (by have := hK.size; simp; omega) (wr.drew.heap.size + 1) (by simp) ?_; intro g cap w7 hown hgrow hat hltg; have HADD := (show Hid (HeldsAt w w7 (some ⟨g, 0, none⟩) (q + 1) cap (allTo xs ts (j + 1)) ∧ Keep [] w w7) from ⟨⟨by rw [HAT.out, flatH_snoc]; exact hown, by rw [HAT.out, List.length_append, HO5.out.len]; rfl⟩, HO5.out.grow HK5.out hgrow⟩); clear hown hgrow hat hltg) | (go_simp; refine (number_any b j xs ts _ HWd.out HK.out hB hlt).mono ?_; rw [HN.out]; rintro e w' ⟨rfl, rfl⟩))
        all_goals (go_wp2_with fail)
        all_goals go_roundw
        all_goals first
          | exact ⟨j + 1, q + 1, _, _, _, _, rfl, rfl, rfl, by go_num, by omega, by omega, (show Hid _ from HADD.out.1), HADD.out.2⟩
          | (simp [intOf]; omega)
    · obtain rfl : j = 512 := by omega
      have hql : (allH xs ts).length = q := HO.out.len
      have HO2 := (show Hid (HeldsAt w wr va q vc (allH xs ts)) from HO.out)
      clear HO
      go_wp2_with fail
      go_ret
      exact ⟨va, vc, by rw [hql]; rfl, by rw [hql]; exact HO2.out, hK⟩

set_option maxHeartbeats 1600000 in
theorem hroom_nil (w : World) :
    Calls Try.prog 19 #[.pointer none] w fun e w' => e = .returned (.int .i64 0) ∧ w = w' := by
  go_enter Try.func19, Try.ntmps19
  go_wp2
  go_ret
  exact ⟨rfl, rfl⟩
set_option maxHeartbeats 1600000 in
theorem hroom {B : Nat} (b : Nat) (xs ts : List Int) (w : World) (h : IsHand w b xs ts) (hk : HOK B xs ts) (hB : B ≤ 1000000) :
    Calls Try.prog 19 #[.pointer (some ⟨b, 0, none⟩)] w fun e w' => e = .returned (.int .i64 (512 - ((allH xs ts).length : Int))) ∧ Keep [] w w' := by
  have HH := (show Hid (IsHand w b xs ts) from h)
  have HK := (show Hid (HOK B xs ts) from hk)
  have hl := allH_len xs ts
  obtain ⟨n, hn⟩ : ∃ n, (allH xs ts).length = n := ⟨_, rfl⟩
  have HN := (show Hid ((allH xs ts).length = n) from hn)
  rw [hn] at hl ⊢
  clear h hk hn
  go_enter Try.func19, Try.ntmps19
  go_wp2_with (first | (go_at_call 22; refine (hall b xs ts _ HH.out HK.out hB).mono ?_; rw [HN.out]; rintro e w1 ⟨va, vc, rfl, hA, hK⟩))
  go_ret
  exact ⟨rfl, hK⟩

end Go.Proofs.Ytenggkgmbmboeaa
