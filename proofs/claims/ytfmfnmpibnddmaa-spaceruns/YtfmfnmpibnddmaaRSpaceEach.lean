/-
  Each and Used of the document's own space.
-/
import Derived.Test.YtfmfnmpibnddmaaRSpaceFind
import Derived.Test.YtfmfnmpibnddmaaSpaceEach
import Derived.Deep.AppendLies
import Derived.Deep.RegionHeld3
namespace Go.Proofs.Ytfmfnmpibnddmaa
open Go.RowKit

theorem eachTo_bd {kd : List PK} (h : WF kd) (j c t : Nat) (xs : List Bool) (hk : kat kd j = .small c xs) (ht : t ≤ xs.length) : ∀ i : Nat, -9223372036854775808 ≤ (eachTo kd j ++ startsTo j c xs t)[i]?.getD 0 ∧ (eachTo kd j ++ startsTo j c xs t)[i]?.getD 0 ≤ 9223372036854775807 :=
  getD_bd (fun x hx => by
    rcases List.mem_append.1 hx with hx | hx
    · obtain ⟨a, n, rfl, _, h3, _⟩ := h.each_in j x hx; omega
    · obtain ⟨i, hi, _, rfl⟩ := startsTo_mem j c xs t x hx
      obtain ⟨hc, hl, _⟩ := h.small j c xs hk
      have hj := kat_lt kd j (by rw [hk]; simp)
      have := h.len2
      have : i * sz c ≤ 32 * 32 := Nat.mul_le_mul (by have := (sz_facts c hc).2.2.2.2.2.1; omega) (sz_facts c hc).2.2.2.1
      omega)

set_option maxRecDepth 100000 in
set_option maxHeartbeats 8000000 in
theorem reach_at (mb : Nat) (L : RLay) (F : List Nat) (ws : List Int) (kd : List PK) (w : World) (h : RpAt w mb L F ws (kindL kd) (bigL kd) kd) (hw : WF kd) :
    Calls Try.prog 15 #[.pointer (some ⟨mb, 0, none⟩)] w fun e w' => ∃ v, e = .returned v ∧ GivesInts w w' v (eachK kd) ∧ Keep [] w w' := by
  obtain ⟨i0, hi, hz0, hz1, hz2⟩ := info_parts Try.infoInt
  have hI : Hid (Try.prog.info? 3 = some i0 ∧ i0.zero = some (.int .i64 0) ∧ i0.size = 1 ∧ i0.bytes = 8) := ⟨hi, hz0, hz1, hz2⟩
  clear hi hz0 hz1 hz2
  obtain ⟨n, hn⟩ : ∃ n, kd.length = n := ⟨_, rfl⟩
  have HN := (show Hid (kd.length = n) from hn)
  have hn2 : n ≤ 256 := by rw [← hn]; exact hw.len2
  have HW := (show Hid (WF kd) from hw)
  have HM := (show Hid (RpAt w mb L F ws (kindL kd) (bigL kd) kd) from h)
  clear hn hw h
  go_enter Try.func15, Try.ntmps15
  go_wp2_with fail
  go_loopw [3, 4] (fun v i wr => ∃ (j m : Nat) (vv : Value), vv = v ∧ j ≤ n ∧ i = .int .i64 j ∧ m = (eachTo kd j).length ∧ Hid (wr.ownsRow w.heap.size 3 1 v m (ints (eachTo kd j))) ∧ Keep [] w wr) (fun _ i _ => n - (intOf i).toNat)
  case atStart => exact ⟨0, 0, _, rfl, by omega, rfl, rfl, World.ownsRow_nil _ _ _ _, Keep.refl _ _⟩
  case round =>
    obtain ⟨j, m, v, hvv, hj, rfl, hm, HO, hK⟩ := hrel
    obtain ⟨w2, rfl⟩ : ∃ w2, w2 = wr := ⟨_, rfl⟩
    subst hvv
    have hM2 := HM.out.keep0 hK
    have c1 := hM2.c1
    rw [HN.out] at c1
    by_cases hlt : j < n
    · have c3 := hM2.c3
      rw [HN.out] at c3
      have ck := hM2.ck (p := j) (by rw [HN.out]; exact hlt)
      rw [kindL_get] at ck
      have ct := hM2.ct (p := j) (by rw [HN.out]; exact hlt)
      have hm2 : m ≤ 32 * 256 := by have := HW.out.each_len j; omega
      have HE := (show Hid (eachTo kd (j + 1) = eachTo kd j ++ startsK j (kat kd j)) from eachTo_succ kd j)
      have quiet : (kat kd j).slot (L.T j) = .slice none 0 0 → (kat kd j).kind ≠ 6 → startsK j (kat kd j) = [] → True := fun _ _ _ => trivial
      clear quiet
      by_cases hsm : ∃ c xs, kat kd j = .small c xs
      · obtain ⟨c, xs, hk⟩ := hsm
        obtain ⟨hc, hxl, _⟩ := HW.out.small j c xs hk
        obtain ⟨z1, z2, z3, z4, z5, z6, z7⟩ := sz_facts c hc
        have HK := (show Hid (kat kd j = .small c xs) from hk)
        rw [hk] at ck ct HE
        have hck : w2.cell? ⟨L.gk, j, none⟩ = some (.int .i64 ((c : Int) + 1)) := ck
        have hct : w2.cell? ⟨L.gt, j, none⟩ = some (.slice (some ⟨L.T j, 0, none⟩) xs.length xs.length) := ct
        obtain ⟨s, hs⟩ : ∃ s, sz c = s := ⟨_, rfl⟩
        have HS := (show Hid (sz c = s) from hs)
        have HSL := (show Hid (sizesL[c]?.getD 0 = (s : Nat)) from by show _ = _; rw [← hs]; exact z1)
        rw [hs] at z3 z4
        obtain ⟨xl, hxl2⟩ : ∃ xl, xs.length = xl := ⟨_, rfl⟩
        have HXL := (show Hid (xs.length = xl) from hxl2)
        have hxb : xl ≤ 32 := by omega
        rw [hxl2] at hct
        have hd6 : decide ((c : Int) + 1 = 6) = false := by rw [decide_eq_false_iff_not]; omega
        have HES := (show Hid (eachTo kd (j + 1) = eachTo kd j ++ startsTo j c xs xl) from by
          have := HE.out
          show _ = _
          rw [this, ← HXL.out]; rfl)
        clear ck ct hk hs hxl hxl2 HE hM2 z1 z2 z5 z6 z7
        go_wp2_with fail
        clear c1 c3 hck hct
        go_loopw [3, 5] (fun v i wz => ∃ (t q : Nat) (vv : Value), vv = v ∧ t ≤ xl ∧ i = .int .i64 t ∧ q = (eachTo kd j ++ startsTo j c xs t).length ∧ q ≤ m + t ∧ Hid (wz.ownsRow w.heap.size 3 1 v q (ints (eachTo kd j ++ startsTo j c xs t))) ∧ Keep [] w wz) (fun _ i _ => xl - (intOf i).toNat)
        case atStart => exact ⟨0, m, _, rfl, by omega, rfl, by rw [startsTo_zero, List.append_nil]; exact hm, by omega, by rw [startsTo_zero, List.append_nil]; exact HO, hK⟩
        case round =>
          obtain ⟨t, q, v, hvv, ht, rfl, hq, hqm, HO2, hK2⟩ := hrel
          obtain ⟨w3, rfl⟩ : ∃ w3, w3 = wr := ⟨_, rfl⟩
          subst hvv
          have hM3 := HM.out.keep0 hK2
          have c1 := hM3.c1
          have c3 := hM3.c3
          rw [HN.out] at c1 c3
          have ck : w3.cell? ⟨L.gk, j, none⟩ = some (.int .i64 ((c : Int) + 1)) := by
            have := hM3.ck (p := j) (by rw [HN.out]; exact hlt)
            rw [kindL_get, HK.out] at this; exact this
          have ct : w3.cell? ⟨L.gt, j, none⟩ = some (.slice (some ⟨L.T j, 0, none⟩) xl xl) := by
            have := hM3.ct (p := j) (by rw [HN.out]; exact hlt)
            rw [HK.out] at this
            rw [← HXL.out]; exact this
          by_cases htl : t < xl
          · have cx := (hM3.page j c xs HK.out).cell (i := t) (by rw [HXL.out]; exact htl)
            cases hv : xs[t]?.getD false
            · rw [hv] at cx
              have HST := (show Hid (startsTo j c xs (t + 1) = startsTo j c xs t) from startsTo_no j c xs t hv)
              clear hM3
              go_wp2_with fail
              go_roundw
              case rel => exact ⟨t + 1, q, _, rfl, by omega, by go_num, by rw [HST.out]; exact hq, by omega, by rw [HST.out]; exact HO2, hK2⟩
              case measure => simp [intOf]; omega
            · rw [hv] at cx
              obtain ⟨y, hy⟩ : ∃ y : Nat, t * s = y := ⟨_, rfl⟩
              have hyb : y ≤ 32 * 32 := by rw [← hy]; exact Nat.mul_le_mul (by omega) z4
              have hyi : (t : Int) * (s : Int) = y := by rw [← hy]; exact (Int.natCast_mul t s).symm
              have hyw : IntKind.i64.wrap ((t : Int) * s) = y := by rw [hyi]; exact IntWalk.i64_in _ (by omega)
              obtain ⟨u, hu⟩ : ∃ u : Nat, 64 * j + y = u := ⟨_, rfl⟩
              have hui : (j : Int) * 64 + y = u := by omega
              have hub : u ≤ 20000 := by omega
              have huw : IntKind.i64.wrap ((j : Int) * 64 + y) = u := by rw [hui]; exact IntWalk.i64_in _ (by omega)
              have hjw : IntKind.i64.wrap ((j : Int) * 64) = (j : Int) * 64 := IntWalk.i64_in _ (by omega)
              have hcw : IntKind.i64.wrap ((c : Int) + 1 - 1) = c := by rw [show (c : Int) + 1 - 1 = c by omega]; exact IntWalk.i64_in _ (by omega)
              have HST := (show Hid (eachTo kd j ++ startsTo j c xs (t + 1) = eachTo kd j ++ startsTo j c xs t ++ [(u : Int)]) from by
                show _ = _
                rw [startsTo_yes j c xs t hv, HS.out, hy, hu, List.append_assoc])
              have hsz3 := hK2.size
              have hyw2 : IntKind.i64.wrap (y : Int) = y := IntWalk.i64_in _ (by omega)
              have huw2 : IntKind.i64.wrap (u : Int) = u := IntWalk.i64_in _ (by omega)
              have hcb0 : (0 : Int) ≤ (c : Int) := by omega
              have hcb1 : (c : Int) < 5 := by omega
              have hcb2 : (c : Int) ≤ 5 := by omega
              have hcw2 : IntKind.i64.wrap (c : Int) = c := IntWalk.i64_in _ (by omega)
              have HQq := (show Hid (q = (eachTo kd j ++ startsTo j c xs t).length) from hq)
              have HMm := (show Hid (m = (eachTo kd j).length) from hm)
              clear hv hy hu hM3 hq hm
              go_wp2_with fail
              have hKd := hK2.trans (Keep.drew [] w3)
              have HOd := (show Hid (w3.drew.ownsRow w.heap.size 3 1 v q (ints (eachTo kd j ++ startsTo j c xs t))) from own_keep6 HO2.out (Keep.drew [] w3))
              have hSd : (fun wz => wz.cell? ⟨mb, 1, none⟩ = some (.slice (some ⟨L.gk, 0, none⟩) n n) ∧ wz.cell? ⟨L.gk, j, none⟩ = some (.int .i64 ((c : Int) + 1))) w3.drew := ⟨c1, ck⟩
              refine wp_region_held_drew (S := (fun wz => wz.cell? ⟨mb, 1, none⟩ = some (.slice (some ⟨L.gk, 0, none⟩) n n) ∧ wz.cell? ⟨L.gk, j, none⟩ = some (.int .i64 ((c : Int) + 1)))) (by kernel_rfl) hSd (fun hHeld => ?_)
              refine wpAnyH_take (i := 0) (v := ?_) rfl (by kernel_rfl) (by kernel_rfl) (by kernel_rfl) (fun _ _ _ h => h) (Or.inl ⟨by rfl, ?_⟩) (by assumption) ?_
              rotate_left 1
              · intro w hSw
                (try dsimp only at hSw)
                go_simp
                try with_reducible rfl
              try dsimp only [Act.put]
              refine wpAnyH_take (i := 1) (v := ?_) rfl (by kernel_rfl) (by kernel_rfl) (by kernel_rfl) (fun _ _ _ h => h) (Or.inl ⟨by rfl, ?_⟩) (by assumption) ?_
              rotate_left 1
              · intro w hSw
                (try dsimp only at hSw)
                go_simp
                try with_reducible rfl
              try dsimp only [Act.put]
              refine wpAnyH_take (i := 2) (v := ?_) rfl (by kernel_rfl) (by kernel_rfl) (by kernel_rfl) (fun _ _ _ h => h) (Or.inl ⟨by rfl, ?_⟩) (by assumption) ?_
              rotate_left 1
              · intro w hSw
                (try dsimp only at hSw)
                go_simp
                try with_reducible rfl
              try dsimp only [Act.put]
              refine wpAnyH_take (i := 3) (v := ?_) rfl (by kernel_rfl) (by kernel_rfl) (by kernel_rfl) (fun _ _ _ h => h) (Or.inl ⟨by rfl, ?_⟩) (by assumption) ?_
              rotate_left 1
              · intro w hSw
                (try dsimp only at hSw)
                go_simp
                try with_reducible rfl
              try dsimp only [Act.put]
              refine wpAnyH_take (i := 5) (v := ?_) rfl (by kernel_rfl) (by kernel_rfl) (by kernel_rfl) (fun _ _ _ h => h) (Or.inl ⟨by rfl, ?_⟩) (by assumption) ?_
              rotate_left 1
              · intro w hSw
                (try dsimp only at hSw)
                go_simp
                try with_reducible rfl
              try dsimp only [Act.put]
              refine wpAnyH_take (i := 6) (v := ?_) rfl (by kernel_rfl) (by kernel_rfl) (by kernel_rfl) (fun _ _ _ h => h) (Or.inl ⟨by rfl, ?_⟩) (by assumption) ?_
              rotate_left 1
              · intro w hSw
                (try dsimp only at hSw)
                go_simp
                try with_reducible rfl
              try dsimp only [Act.put]
              refine wpAnyH_take (i := 7) (v := ?_) rfl (by kernel_rfl) (by kernel_rfl) (by kernel_rfl) (fun _ _ _ h => h) (Or.inl ⟨by rfl, ?_⟩) (by assumption) ?_
              rotate_left 1
              · intro w hSw
                (try dsimp only at hSw)
                go_simp
                try with_reducible rfl
              try dsimp only [Act.put]
              refine wpAnyH_take (i := 8) (v := ?_) rfl (by kernel_rfl) (by kernel_rfl) (by kernel_rfl) (fun _ _ _ h => h) (Or.inl ⟨by rfl, ?_⟩) (by assumption) ?_
              rotate_left 1
              · intro w hSw
                (try dsimp only at hSw)
                go_simp
                try with_reducible rfl
              try dsimp only [Act.put]
              refine wpAnyH_take (i := 9) (v := ?_) rfl (by kernel_rfl) (by kernel_rfl) (by kernel_rfl) (fun _ _ _ h => h) (Or.inl ⟨by rfl, ?_⟩) (by assumption) ?_
              rotate_left 1
              · intro w hSw
                (try dsimp only at hSw)
                go_simp
                try with_reducible rfl
              try dsimp only [Act.put]
              refine wpAnyH_take (i := 10) (v := ?_) rfl (by kernel_rfl) (by kernel_rfl) (by kernel_rfl) (fun _ _ _ h => h) (Or.inl ⟨by rfl, ?_⟩) (by assumption) ?_
              rotate_left 1
              · intro w hSw
                (try dsimp only at hSw)
                go_simp
                try with_reducible rfl
              try dsimp only [Act.put]
              refine wpAnyH_take (i := 11) (v := ?_) rfl (by kernel_rfl) (by kernel_rfl) (by kernel_rfl) (fun _ _ _ h => h) (Or.inl ⟨by rfl, ?_⟩) (by assumption) ?_
              rotate_left 1
              · intro w hSw
                (try dsimp only at hSw)
                go_simp
                try with_reducible rfl
              try dsimp only [Act.put]
              refine wpAnyH_take (i := 12) (v := ?_) rfl (by kernel_rfl) (by kernel_rfl) (by kernel_rfl) (fun _ _ _ h => h) (Or.inl ⟨by rfl, ?_⟩) (by assumption) ?_
              rotate_left 1
              · intro w hSw
                (try dsimp only at hSw)
                go_simp
                try with_reducible rfl
              try dsimp only [Act.put]
              refine wpAnyH_ready (rs := [4]) (by kernel_rfl) (by simp) ?_
              refine AllReadyH.cons rfl (fun K hK => ?_) AllReadyH.nil
              go_simp
              refine (rsizes_any _).mono ?_
              rintro e w4 ⟨gz, rfl, hr, hK4, hgz⟩
              have hxz := hr.cell (i := c) hc
              rw [HSL.out] at hxz
              have hK44 := hKd.trans hK4
              have hM4 := HM.out.keep0 hK44
              have hS41 := hM4.c1
              rw [HN.out] at hS41
              have hS42 : w4.cell? ⟨L.gk, j, none⟩ = some (.int .i64 ((c : Int) + 1)) := by
                have := hM4.ck (p := j) (by rw [HN.out]; exact hlt)
                rw [kindL_get, HK.out] at this; exact this
              have hM45 := hM4.keep0 (Keep.alloc [] w4 (.cells #[.int .i64 (u : Int)] 3))
              have hS43 := hM45.c1
              rw [HN.out] at hS43
              have hS44 : (w4.alloc (.cells #[.int .i64 (u : Int)] 3)).cell? ⟨L.gk, j, none⟩ = some (.int .i64 ((c : Int) + 1)) := by
                have := hM45.ck (p := j) (by rw [HN.out]; exact hlt)
                rw [kindL_get, HK.out] at this; exact this
              have HO4 := (show Hid (w4.ownsRow w.heap.size 3 1 v q (ints (eachTo kd j ++ startsTo j c xs t))) from own_keep6 HOd.out hK4)
              have hsz4 := hK44.size
              clear hM4 hM45 hr
              refine hK.out _ _ ⟨hS41, hS42⟩ (fun hHeld => ?_)
              clear hK K
              try dsimp only [Act.put]
              refine wpAnyH_take (i := 13) (v := ?_) rfl (by kernel_rfl) (by kernel_rfl) (by kernel_rfl) (fun _ _ _ h => h) (Or.inl ⟨by rfl, ?_⟩) (by assumption) ?_
              rotate_left 1
              · intro w hSw
                (try dsimp only at hSw)
                go_simp
                try with_reducible rfl
              try dsimp only [Act.put]
              refine wpAnyH_ready (rs := [14]) (by kernel_rfl) (by simp) ?_
              refine AllReadyH.cons rfl (fun K hK => ?_) AllReadyH.nil
              go_simp
              refine hK.out _ _ ⟨hS41, hS42⟩ (fun hHeld => ?_)
              clear hK K
              try dsimp only [Act.put]
              refine wpAnyH_take (i := 15) (v := ?_) rfl (by kernel_rfl) (by kernel_rfl) (by kernel_rfl) (fun _ _ _ h => h) (Or.inl ⟨by rfl, ?_⟩) (by assumption) ?_
              rotate_left 1
              · intro w hSw
                (try dsimp only at hSw)
                go_simp
                try with_reducible rfl
              try dsimp only [Act.put]
              refine wpAnyH_take (i := 16) (v := ?_) rfl (by kernel_rfl) (by kernel_rfl) (by kernel_rfl) (fun _ _ _ h => h) (Or.inl ⟨by rfl, ?_⟩) (by assumption) ?_
              rotate_left 1
              · intro w hSw
                (try dsimp only at hSw)
                go_simp
                try with_reducible rfl
              try dsimp only [Act.put]
              refine wpAnyH_ready (rs := [17]) (by kernel_rfl) (by simp) ?_
              refine AllReadyH.cons rfl (fun K hK => ?_) AllReadyH.nil
              go_simp
              refine hK.out _ _ ⟨hS43, hS44⟩ (fun hHeld => ?_)
              clear hK K
              try dsimp only [Act.put]
              refine wpAnyH_ready (rs := [18]) (by kernel_rfl) (by simp) ?_
              refine AllReadyH.cons rfl (fun K hK => ?_) AllReadyH.nil
              refine step_append_lies _ rfl (.tmp 50) (.tmp 67) 32 rfl w.heap.size 3 i0 (.int .i64 0) 1 8 Try.underlying32 hI.out.1 hI.out.2.1 hI.out.2.2.1 hI.out.2.2.2 rfl (by decide) _ q (ints (eachTo kd j ++ startsTo j c xs t)) rfl (HO4.out.alloc _) ⟨w4.heap.size, 0, none⟩ 1 1 (ints [(u : Int)]) rfl rfl (one_cell _ _ _) (ints_one _) (by omega) (by unfold maxLen; omega) (by omega) (by simp; omega) (w4.heap.size + 1) (by simp) ?_
              intro ga ca7 w7 hown7 hgrow7 hblk7 hlt7
              have hK7 : Keep [] w w7 := (hK44.trans (Keep.alloc [] _ _)).grown hgrow7 (own_block HO4.out)
              have hM7 := HM.out.keep0 hK7
              have hS51 := hM7.c1
              rw [HN.out] at hS51
              have hS52 : w7.cell? ⟨L.gk, j, none⟩ = some (.int .i64 ((c : Int) + 1)) := by
                have := hM7.ck (p := j) (by rw [HN.out]; exact hlt)
                rw [kindL_get, HK.out] at this; exact this
              refine hK.out _ _ ⟨hS51, hS52⟩ (fun hHeld => ?_)
              clear hK K
              try dsimp only [Act.put]
              refine wpAnyH_take (i := 19) (v := ?_) rfl (by kernel_rfl) (by kernel_rfl) (by kernel_rfl) (fun _ _ _ h => h) (Or.inl ⟨by rfl, ?_⟩) (by assumption) ?_
              rotate_left 1
              · intro w hSw
                (try dsimp only at hSw)
                go_simp
                try with_reducible rfl
              try dsimp only [Act.put]
              refine wpAnyH_done (by kernel_rfl) ?_ _
              have HO7 := (show Hid (w7.ownsRow w.heap.size 3 1 (.slice (some ⟨ga, 0, none⟩) (q + 1) ca7) (q + 1) (ints (eachTo kd j ++ startsTo j c xs (t + 1)))) from by
                show World.ownsRow _ _ _ _ _ _ _
                rw [HST.out, ← ints_app]; exact hown7)
              have HQ7 := (show Hid (q + 1 = (eachTo kd j ++ startsTo j c xs (t + 1)).length) from by
                show _ = _
                rw [HST.out, List.length_append, ← HQq.out]; rfl)
              clear hown7 hgrow7 hblk7 hlt7 hM7 hS51 hS52 HO4 HOd HO2
              go_wp2_with fail
              go_roundw
              case rel =>
                have hl7 := HQ7.out
                rw [List.length_append] at hl7
                refine ⟨t + 1, by omega, by go_num, by omega, ?_⟩
                rw [← hl7]
                exact HO7
              case measure => simp [intOf]; omega
          · obtain rfl : t = xl := by omega
            have HO8 := (show Hid (w3.ownsRow w.heap.size 3 1 v q (ints (eachTo kd (j + 1)))) from by
              show World.ownsRow _ _ _ _ _ _ _
              rw [HES.out]; exact HO2.out)
            have HQ8 := (show Hid (q = (eachTo kd (j + 1)).length) from by show _ = _; rw [HES.out]; exact hq)
            clear HO2 hM3
            go_wp2_with fail
            go_roundw
            case rel => exact ⟨j + 1, q, _, rfl, by omega, by go_num, HQ8.out, HO8, hK2⟩
            case measure => simp [intOf]; omega
      · have hs : ∀ c xs, kat kd j ≠ .small c xs := fun c xs e => hsm ⟨c, xs, e⟩
        have ct0 : w2.cell? ⟨L.gt, j, none⟩ = some (.slice none 0 0) := by
          cases e : kat kd j with
          | small c xs => exact absurd e (hs c xs)
          | _ => rw [e] at ct; exact ct
        by_cases h6 : (kat kd j).kind = 6
        · have hst : startsK j (kat kd j) = [((64 * j : Nat) : Int)] := by
            cases e : kat kd j with
            | small c xs => exact absurd e (hs c xs)
            | part a b =>
              rw [e] at h6
              cases a with
              | zero => rfl
              | succ a => exact absurd h6 (by show ¬ (7 : Int) = 6; omega)
            | zero => rw [e] at h6; exact absurd h6 (by show ¬ (-1 : Int) = 6; omega)
            | free => rw [e] at h6; exact absurd h6 (by show ¬ (0 : Int) = 6; omega)
          rw [h6] at ck
          rw [hst] at HE
          obtain ⟨u, hu⟩ : ∃ u : Nat, 64 * j = u := ⟨_, rfl⟩
          rw [hu] at HE
          have hui : (j : Int) * 64 = u := by omega
          have hub : u ≤ 20000 := by omega
          clear hst hu h6 ct hs hsm hM2
          go_wp2_with (first | (at_builtin; refine append_ints rfl (.tmp 23) (.tmp 26) 32 rfl w.heap.size 3 i0 Try.underlying32 hI.out _ m (eachTo kd j) [(u : Int)] rfl (HO.out.alloc _) (some ⟨w2.heap.size, 0, none⟩) 1 1 rfl rfl (IntsAt.single w2 3 u (by omega) (by omega)) (fun e => by cases e) (by omega) (by have := hK.size; simp; omega) ?_; intro v' w5 hown5 hgrow; have hK5 : Keep [] w w5 := (hK.trans (Keep.alloc [] _ _)).grown hgrow (own_block HO.out); have hM5 := HM.out.keep0 hK5; have c35 := hM5.c3; rw [HN.out] at c35))
          have ct5 : w5.cell? ⟨L.gt, j, none⟩ = some (.slice none 0 0) := by
            have e1 := (HM.out.keep0 hK).ct (p := j) (by rw [HN.out]; exact hlt)
            rw [ct0] at e1
            have e2 := hM5.ct (p := j) (by rw [HN.out]; exact hlt)
            rw [e2]; exact e1.symm
          have HO5 := (show Hid (w5.ownsRow w.heap.size 3 1 v' (m + 1) (ints (eachTo kd (j + 1)))) from by
            show World.ownsRow _ _ _ _ _ _ _
            rw [HE.out]; exact hown5)
          have HQ5 := (show Hid (m + 1 = (eachTo kd (j + 1)).length) from by show _ = _; rw [HE.out, List.length_append, ← hm]; rfl)
          clear hown5 hgrow hM5 HO
          go_loop [3, 5] (fun a i => a = v' ∧ i = .int .i64 0) (fun _ _ => 0)
          case atStart => exact ⟨rfl, rfl⟩
          case round =>
            obtain ⟨rfl, rfl⟩ := hrel
            go_wp2_with fail
            go_roundw
            case rel => exact ⟨j + 1, m + 1, _, rfl, by omega, by go_num, HQ5.out, HO5, hK5⟩
            case measure => simp [intOf]; omega
        · have hst : startsK j (kat kd j) = [] := by
            cases e : kat kd j with
            | small c xs => exact absurd e (hs c xs)
            | part a b =>
              rw [e] at h6
              cases a with
              | zero => exact absurd rfl h6
              | succ a => rfl
            | zero => rfl
            | free => rfl
          generalize (kat kd j).kind = kv at *
          have hkd : decide (kv = 6) = false := by rw [decide_eq_false_iff_not]; exact h6
          rw [hst, List.append_nil] at HE
          clear hst ct hs hsm hM2
          go_wp2_with fail
          go_loop [3, 5] (fun a i => a = v ∧ i = .int .i64 0) (fun _ _ => 0)
          case atStart => exact ⟨rfl, rfl⟩
          case round =>
            obtain ⟨rfl, rfl⟩ := hrel
            go_wp2_with fail
            go_roundw
            case rel => exact ⟨j + 1, m, _, rfl, by omega, by go_num, by rw [HE.out]; exact hm, by rw [HE.out]; exact HO, hK⟩
            case measure => simp [intOf]; omega
    · obtain rfl : j = n := by omega
      have hE : eachTo kd j = eachK kd := by unfold eachK; rw [HN.out]
      have hO := HO.out
      rw [hE] at hO
      obtain ⟨la, lc, rfl, hLA, hIA, hoffA, hlc⟩ := owned_form hO (by unfold eachK; exact HW.out.each_bd _)
      have HG := (show Hid (GivesInts w w2 (.slice la (eachK kd).length lc) (eachK kd)) from ⟨la, lc, rfl, hIA, hlc, hoffA⟩)
      clear hO HO hLA hIA hoffA hlc hE hM2
      go_wp2_with fail
      go_ret
      exact ⟨_, rfl, HG.out, hK⟩
/-- Each of the document's own. -/
theorem reach_any (mb : Nat) (F : List Nat) (ws : List Int) (kd : List PK) (w : World) (h : IsRef w mb F ws kd) (hw : WF kd) :
    Calls Try.prog 15 #[.pointer (some ⟨mb, 0, none⟩)] w fun e w' => ∃ v, e = .returned v ∧ GivesInts w w' v (eachK kd) ∧ Keep [] w w' := by
  obtain ⟨L, h⟩ := h; exact reach_at mb L F ws kd w h hw

end Go.Proofs.Ytfmfnmpibnddmaa
