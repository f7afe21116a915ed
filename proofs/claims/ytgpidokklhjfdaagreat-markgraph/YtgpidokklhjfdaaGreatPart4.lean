/-
  Contracts of what the statement calls, one text behind the other (RefBits, RSpaceFree, RSpaceNew, RefPages, SpaceOps, SpaceAlloc, RSpaceAlloc, RSpaceAllocS, RSpaceAllocN, RSpaceAllocM).
-/
import Derived.Test.YtgpidokklhjfdaaGreatPart1
import Derived.Test.YtgpidokklhjfdaaGreatPart3
import Derived.RegionTactic
import Derived.ChangeAlike
import Derived.Deep.CutRange
import Derived.Test.YtgpidokklhjfdaaGreatPart2

/-
  What each call of the document's own Bits (a plain list of bools) does.
-/
namespace Go.Proofs.YtgpidokklhjfdaaGreat
open Go.RowKit

set_option maxHeartbeats 400000 in
theorem rnext_any (g n c : Nat) (f : Int) (v : Bool) (xs : List Bool) (w : World) (hr : BRow w 4 g xs) (hxn : xs.length = n) (hn : n ≤ 16384) (hf : f ≤ 9223372036854775807) :
    Calls Tryz.prog 95 #[.slice (some ⟨g, 0, none⟩) n c, .int .i64 f, .bool v] w fun e w' => e = .returned (.int .i64 (nextR xs f.toNat v)) ∧ w = w' := by
  have HR := (show Hid (∀ i : Nat, i < n → w.cell? ⟨g, i, none⟩ = some (.bool (xs[i]?.getD false))) from fun i hi => hr.cell (by omega))
  have HX := (show Hid (xs.length = n) from hxn)
  clear hr hxn
  generalize hN : nextR xs f.toNat v = r
  obtain ⟨i0, hi0, hi1⟩ : ∃ i0 : Nat, i0 = f.toNat ∧ (i0 : Int) ≤ 9223372036854775807 := ⟨_, rfl, by omega⟩
  rw [← hi0] at hN
  have HN := (show Hid (nextR xs i0 v = r) from hN)
  clear hN
  rcases (show f = i0 ∨ f < 0 ∧ i0 = 0 by omega) with rfl | ⟨hneg, rfl⟩
  all_goals
    clear hi0
    go_enter Tryz.func95, Tryz.ntmps95
    go_wp2
    go_loop [7] (fun i => ∃ j : Nat, i = .int .i64 j ∧ (j : Int) ≤ 9223372036854775807 ∧ Hid (nextR xs j v = r)) (fun i => n - (intOf i).toNat)
    case atStart => first | exact ⟨i0, rfl, hi1, HN⟩ | exact ⟨0, rfl, by omega, HN⟩
    case round =>
      obtain ⟨j, rfl, hj, HJ⟩ := hrel
      by_cases hlt : j < n
      · have hc := HR.out j hlt
        by_cases hv : xs[j]?.getD false = v
        · have HF := (show Hid ((j : Int) = r) from (nextR_yes xs j v (by rw [HX.out]; exact hlt) hv).symm.trans HJ.out)
          rw [hv] at hc
          clear hv
          go_wp2
          go_ret
          exact ⟨by rw [← HF.out]; rfl, rfl⟩
        · have HK := (show Hid (nextR xs (j + 1) v = r) from (nextR_no xs j v (by rw [HX.out]; exact hlt) hv).symm.trans HJ.out)
          obtain ⟨y, hy⟩ : ∃ y, xs[j]?.getD false = y := ⟨_, rfl⟩
          rw [hy] at hc hv
          have hbq : (y == v) = false := by rw [beq_eq_false_iff_ne]; exact hv
          clear hy hv
          go_wp2
          go_round
          case rel => exact ⟨j + 1, by go_num, by omega, HK⟩
          case measure => simp [intOf]; omega
      · have HF := (show Hid (-1 = r) from (nextR_end xs j v (by rw [HX.out]; omega)).symm.trans HJ.out)
        have hd : decide ((j : Int) < n) = false := by rw [decide_eq_false_iff_not]; omega
        go_wp2
        go_ret
        exact ⟨by rw [← HF.out]; rfl, rfl⟩

set_option maxHeartbeats 400000 in
theorem rclear_any (g n c i k : Nat) (xs : List Bool) (w : World) (hr : BRow w 4 g xs) (hxn : xs.length = n) (hn : n ≤ 16384) (hik : i + k ≤ n) :
    Calls Tryz.prog 109 #[.slice (some ⟨g, 0, none⟩) n c, .int .i64 i, .int .i64 k] w fun e w' => e = .returned (.bool (clrB xs i k)) ∧ w = w' := by
  have HR := (show Hid (∀ i : Nat, i < n → w.cell? ⟨g, i, none⟩ = some (.bool (xs[i]?.getD false))) from fun i hi => hr.cell (by omega))
  have HX := (show Hid (xs.length = n) from hxn)
  clear hr hxn
  generalize hN : clrB xs i k = r
  have HN := (show Hid (clrB xs i k = r) from hN)
  clear hN
  go_enter Tryz.func109, Tryz.ntmps109
  go_wp2
  go_loop [7] (fun q => ∃ j : Nat, q = .int .i64 j ∧ i ≤ j ∧ j ≤ i + k ∧ Hid (∀ t, i ≤ t → t < j → xs[t]?.getD false = false)) (fun q => i + k - (intOf q).toNat)
  case atStart => exact ⟨i, rfl, by omega, by omega, fun t a b => by omega⟩
  case round =>
    obtain ⟨j, rfl, hj1, hj2, HJ⟩ := hrel
    by_cases hlt : j < i + k
    · have hc := HR.out j (by omega)
      by_cases hv : xs[j]?.getD false = true
      · have HF := (show Hid (false = r) from by
          rw [← HN.out]
          cases h : clrB xs i k
          · rfl
          · have := ((clrB_iff _ _ _).1 h).2 j hj1 hlt; rw [hv] at this; cases this)
        rw [hv] at hc
        clear hv HJ
        go_wp2
        go_ret
        exact ⟨by rw [← HF.out]; rfl, rfl⟩
      · have hv' : xs[j]?.getD false = false := by simpa using hv
        have HK := (show Hid (∀ t, i ≤ t → t < j + 1 → xs[t]?.getD false = false) from fun t a b => by
          by_cases e : t = j
          · subst e; exact hv'
          · exact HJ.out t a (by omega))
        rw [hv'] at hc
        clear hv hv' HJ
        go_wp2
        go_round
        case rel => exact ⟨j + 1, by go_num, by omega, by omega, HK⟩
        case measure => simp [intOf]; omega
    · have HF := (show Hid (true = r) from by
        show true = r
        rw [← HN.out]; symm; rw [clrB_iff]
        exact ⟨by rw [HX.out]; exact hik, fun t a b => HJ.out t a (by omega)⟩)
      have hd : decide ((j : Int) < (i : Int) + k) = false := by rw [decide_eq_false_iff_not]; omega
      go_wp2
      go_ret
      exact ⟨by rw [← HF.out]; rfl, rfl⟩

set_option maxHeartbeats 400000 in
theorem rrun_low (x : Value) (f k : Int) (w : World) (h : k < 1) :
    Calls Tryz.prog 93 #[x, .int .i64 f, .int .i64 k] w fun e w' => e = .returned (.int .i64 (-1)) ∧ w = w' := by
  go_enter Tryz.func93, Tryz.ntmps93
  go_wp2
  go_ret
  exact ⟨rfl, rfl⟩
set_option maxHeartbeats 400000 in
theorem rrun_big (g n c : Nat) (f k : Int) (w : World) (h1 : 1 ≤ k) (h : (n : Int) < k) :
    Calls Tryz.prog 93 #[.slice (some ⟨g, 0, none⟩) n c, .int .i64 f, .int .i64 k] w fun e w' => e = .returned (.int .i64 (-1)) ∧ w = w' := by
  go_enter Tryz.func93, Tryz.ntmps93
  go_wp2
  go_ret
  exact ⟨rfl, rfl⟩
set_option maxHeartbeats 400000 in
theorem rrun_core (g n c k : Nat) (f : Int) (xs : List Bool) (w : World) (hr : BRow w 4 g xs) (hxn : xs.length = n) (hn : n ≤ 16384) (hf : f ≤ 9223372036854775807) (h1 : 1 ≤ k) (h2 : k ≤ n) :
    Calls Tryz.prog 93 #[.slice (some ⟨g, 0, none⟩) n c, .int .i64 f, .int .i64 k] w fun e w' => e = .returned (.int .i64 (runR xs f.toNat k)) ∧ w = w' := by
  have HX := (show Hid (xs.length = n) from hxn)
  have HR := (show Hid (BRow w 4 g xs) from hr)
  clear hxn hr
  generalize hN : runR xs f.toNat k = r
  obtain ⟨i0, hi0, hi1⟩ : ∃ i0 : Nat, i0 = f.toNat ∧ (i0 : Int) ≤ 9223372036854775807 := ⟨_, rfl, by omega⟩
  rw [← hi0] at hN
  have HN := (show Hid (runR xs i0 k = r) from hN)
  clear hN
  have hk1 : decide ((k : Int) < 1) = false := by rw [decide_eq_false_iff_not]; omega
  have hk2 : decide (n < k) = false := by rw [decide_eq_false_iff_not]; omega
  rcases (show f = i0 ∨ f < 0 ∧ i0 = 0 by omega) with rfl | ⟨hneg, rfl⟩
  all_goals
    clear hi0
    go_enter Tryz.func93, Tryz.ntmps93
    go_wp2
    go_loop [7] (fun i => ∃ j : Nat, i = .int .i64 j ∧ (j : Int) ≤ 9223372036854775807 ∧ Hid (runR xs j k = r)) (fun i => n - (intOf i).toNat)
    case atStart => first | exact ⟨i0, rfl, hi1, HN⟩ | exact ⟨0, rfl, by omega, HN⟩
    case round =>
      obtain ⟨j, rfl, hj, HJ⟩ := hrel
      by_cases hlt : j + k ≤ n
      · by_cases hv : clrB xs j k = true
        · have HF := (show Hid ((j : Int) = r) from (runR_yes xs j k h1 ((clrB_iff _ _ _).1 hv)).symm.trans HJ.out)
          have HV := (show Hid (clrB xs j k = true) from hv)
          clear hv
          go_wp2_with (go_at_call 109; refine (rclear_any _ _ _ j k _ _ HR.out HX.out hn hlt).mono ?_; rw [HV.out]; rintro e w' ⟨rfl, rfl⟩)
          go_ret
          exact ⟨by rw [← HF.out]; rfl, rfl⟩
        · have HK := (show Hid (runR xs (j + 1) k = r) from (runR_no xs j k (fun e => hv ((clrB_iff _ _ _).2 e))).symm.trans HJ.out)
          have HV := (show Hid (clrB xs j k = false) from by show clrB xs j k = false; simpa using hv)
          clear hv
          go_wp2_with (go_at_call 109; refine (rclear_any _ _ _ j k _ _ HR.out HX.out hn hlt).mono ?_; rw [HV.out]; rintro e w' ⟨rfl, rfl⟩)
          go_round
          case rel => exact ⟨j + 1, by go_num, by omega, HK⟩
          case measure => simp [intOf]; omega
      · have HF := (show Hid (-1 = r) from (runR_end xs j k (by rw [HX.out]; omega)).symm.trans HJ.out)
        have hd : decide ((j : Int) ≤ (n : Int) - k) = false := by rw [decide_eq_false_iff_not]; omega
        go_wp2
        go_ret
        exact ⟨by rw [← HF.out]; rfl, rfl⟩
theorem rrun_any (g n c : Nat) (f k : Int) (xs : List Bool) (w : World) (hr : BRow w 4 g xs) (hxn : xs.length = n) (hn : n ≤ 16384) (hf : f ≤ 9223372036854775807) :
    Calls Tryz.prog 93 #[.slice (some ⟨g, 0, none⟩) n c, .int .i64 f, .int .i64 k] w fun e w' => e = .returned (.int .i64 (runI xs f k)) ∧ w = w' := by
  unfold runI
  by_cases h : k < 1
  · rw [if_pos h]; exact rrun_low _ f k w h
  · rw [if_neg h]
    obtain ⟨m, rfl⟩ := Int.eq_ofNat_of_zero_le (show 0 ≤ k by omega)
    by_cases h2 : m ≤ n
    · exact rrun_core g n c m f xs w hr hxn hn hf (by omega) h2
    · rw [Int.toNat_natCast, runR_end _ _ _ (by omega)]
      exact rrun_big g n c f m w (by omega) (by omega)


end Go.Proofs.YtgpidokklhjfdaaGreat

/-
  Free of the document's own space.
-/
namespace Go.Proofs.YtgpidokklhjfdaaGreat
open Go.RowKit

/-- The kinds of pages that are freed one behind the other. -/
def unkind (ks : List Int) (p m : Nat) : List Int := fill0 ks p m
theorem kind_free (kd : List PK) (p k : Nat) (h : p + k ≤ kd.length) : unkind (kindL kd) p k = kindL (freeParts kd p k) := by
  unfold unkind
  refine eq_of_getD (by rw [fill0_length _ _ _ (by rw [kindL_length]; exact h), kindL_length, kindL_length, freeParts_length]) (fun t => ?_)
  rw [fill0_get _ _ _ _ (by rw [kindL_length]; exact h), kindL_get, kindL_get, freeParts_at]
  split <;> rfl

theorem kind_same {kd : List PK} {p c : Nat} {xs ys : List Bool} (hk : kat kd p = .small c xs) : kindL (kd.set p (.small c ys)) = kindL kd := by
  have hp := kat_lt kd p (by rw [hk]; simp)
  refine eq_of_getD (by simp [kindL]) (fun t => ?_)
  rw [kindL_get, kindL_get, kat_set _ _ _ _ hp]
  split
  · rename_i e; subst e; rw [hk]; rfl
  · rfl
theorem big_same {kd : List PK} {p c : Nat} {xs : List Bool} {x : PK} (hk : kat kd p = .small c xs) (hx : x.big = 0) : bigL (kd.set p x) = bigL kd := by
  have hp := kat_lt kd p (by rw [hk]; simp)
  refine eq_of_getD (by simp [bigL]) (fun t => ?_)
  rw [bigL_get, bigL_get, kat_set _ _ _ _ hp]
  split
  · rename_i e; subst e; rw [hk, hx]; rfl
  · rfl

end Go.Proofs.YtgpidokklhjfdaaGreat

/-
  NewSpace of the document's own.
-/
namespace Go.Proofs.YtgpidokklhjfdaaGreat
open Go.RowKit

theorem Tryz.infoBits : (Tryz.prog.info? 137).map (fun i => (i.zero, i.size, i.bytes)) = some (some (.slice none 0 0), 1, 24) := by kernel_rfl

theorem five_new (w : World) (o1 o2 o3 o4 o5 : Obj) : (((((w.alloc o1).alloc o2).alloc o3).alloc o4).alloc o5).drew.heap[w.heap.size]? = some o1 ∧ (((((w.alloc o1).alloc o2).alloc o3).alloc o4).alloc o5).drew.heap[w.heap.size + 1]? = some o2 ∧
    (((((w.alloc o1).alloc o2).alloc o3).alloc o4).alloc o5).drew.heap[w.heap.size + 1 + 1]? = some o3 ∧ (((((w.alloc o1).alloc o2).alloc o3).alloc o4).alloc o5).drew.heap[w.heap.size + 1 + 1 + 1]? = some o4 ∧
    (((((w.alloc o1).alloc o2).alloc o3).alloc o4).alloc o5).drew.heap[w.heap.size + 1 + 1 + 1 + 1]? = some o5 ∧ Keep [] w (((((w.alloc o1).alloc o2).alloc o3).alloc o4).alloc o5).drew := by
  have k1 := Keep.alloc [] w o1
  have k2 := Keep.alloc [] (w.alloc o1) o2
  have k3 := Keep.alloc [] ((w.alloc o1).alloc o2) o3
  have k4 := Keep.alloc [] (((w.alloc o1).alloc o2).alloc o3) o4
  have k5 := Keep.alloc [] ((((w.alloc o1).alloc o2).alloc o3).alloc o4) o5
  have k6 := Keep.drew [] (((((w.alloc o1).alloc o2).alloc o3).alloc o4).alloc o5)
  have e1 := heap_alloc_new w o1
  have e2 := heap_alloc_new (w.alloc o1) o2
  have e3 := heap_alloc_new ((w.alloc o1).alloc o2) o3
  have e4 := heap_alloc_new (((w.alloc o1).alloc o2).alloc o3) o4
  have e5 := heap_alloc_new ((((w.alloc o1).alloc o2).alloc o3).alloc o4) o5
  rw [show (w.alloc o1).heap.size = w.heap.size + 1 by simp] at e2
  rw [show ((w.alloc o1).alloc o2).heap.size = w.heap.size + 1 + 1 by simp] at e3
  rw [show (((w.alloc o1).alloc o2).alloc o3).heap.size = w.heap.size + 1 + 1 + 1 by simp] at e4
  rw [show ((((w.alloc o1).alloc o2).alloc o3).alloc o4).heap.size = w.heap.size + 1 + 1 + 1 + 1 by simp] at e5
  have t3 := (k4.trans k5).trans k6
  have t2 := k3.trans t3
  have t1 := k2.trans t2
  exact ⟨t1.blk e1 (by simp), t2.blk e2 (by simp), t3.blk e3 (by simp), (k5.trans k6).blk e4 (by simp), k6.blk e5 (by simp), k1.trans t1⟩
/-- What the document's New lays out, whichever of its rows is made first. -/
def Laid (n : Nat) (w wz : World) (mb gw gk gm gt : Nat) : Prop :=
  wz.heap[mb]? = some (.cells #[.slice (some ⟨gw, 0, none⟩) (n * 64) (n * 64), .slice (some ⟨gk, 0, none⟩) n n, .slice (some ⟨gm, 0, none⟩) n n, .slice (some ⟨gt, 0, none⟩) n n] 86 (0, 0)) ∧
  wz.heap[gw]? = some (.cells (madeCells #[.int .i64 0] (n * 64)) 3 (0, 0)) ∧ wz.heap[gk]? = some (.cells (madeCells #[.int .i64 0] n) 3 (0, 0)) ∧ wz.heap[gm]? = some (.cells (madeCells #[.int .i64 0] n) 3 (0, 0)) ∧
  wz.heap[gt]? = some (.cells (madeCells #[.slice none 0 0] n) 137 (0, 0)) ∧ Keep [] w wz ∧ (w.heap.size ≤ mb ∧ w.heap.size ≤ gw ∧ w.heap.size ≤ gk ∧ w.heap.size ≤ gm ∧ w.heap.size ≤ gt) ∧
  (gw < mb ∧ gk < mb ∧ gm < mb ∧ gt < mb) ∧ (gw ≠ gk ∧ gw ≠ gm ∧ gw ≠ gt) ∧ gk ≠ gm ∧ gk ≠ gt ∧ gm ≠ gt
theorem rows_none (n : Nat) (L : RLay) : List.replicate n (Value.slice none 0 0) = slots L (freshK n) := by
  apply List.ext_getElem?
  intro q
  rcases Nat.lt_or_ge q n with hq | hq
  · rw [slots_get L (freshK n) q (by rw [freshK_length]; exact hq), freshK_at n q (by omega), List.getElem?_replicate, if_pos hq]
    split <;> rfl
  · rw [List.getElem?_eq_none (by simpa using hq), List.getElem?_eq_none (by rw [slots_length, freshK_length]; exact hq)]
theorem kind_fresh (n : Nat) (h : 1 ≤ n) : kindL (freshK n) = (zeros n).set 0 (-1) := by
  refine eq_of_getD (by rw [kindL_length, freshK_length, List.length_set, zeros_length]) (fun t => ?_)
  rw [kindL_get, freshK_at n t h]
  by_cases e : t = 0
  · subst e; rw [if_pos rfl, set_get_same _ _ _ (by rw [zeros_length]; omega)]; rfl
  · rw [if_neg e, set_get_other _ _ _ _ (fun e' => e e'.symm), zeros_get]; rfl
theorem Laid.ref {n : Nat} {w wz : World} {mb gw gk gm gt : Nat} (hn : 1 ≤ n) (h : Laid n w wz mb gw gk gm gt) : ∃ F, IsRef (wz.setCell ⟨gk, 0, none⟩ (.int .i64 (-1))) mb F (zeros (64 * n)) (freshK n) ∧ Keep [] w (wz.setCell ⟨gk, 0, none⟩ (.int .i64 (-1))) ∧ ∀ k, k ∈ F → w.heap.size ≤ k := by
  obtain ⟨h0, h1, h2, h3, h4, hK, ⟨a0, a1, a2, a3, a4⟩, ⟨b1, b2, b3, b4⟩, ⟨c1, c2, c3⟩, c4, c5, c6⟩ := h
  let r : Nat → Nat := fun k => if k = mb then 0 else if k = gw then 1 else if k = gk then 2 else if k = gm then 3 else 4
  have nosm : ∀ p c xs, kat (freshK n) p ≠ .small c xs := by
    intro p c xs e
    rw [freshK_at n p hn] at e
    split at e <;> cases e
  have base : RpAt wz mb ⟨gw, gk, gm, gt, fun _ => 0, r⟩ [mb, gw, gk, gm, gt] (zeros (64 * n)) (zeros n) (zeros n) (freshK n) := {
    head := by rw [freshK_length, Nat.mul_comm]; exact h0
    rowW := by unfold Row; rw [← ints_made, Nat.mul_comm]; exact h1
    rowK := by unfold Row; rw [← ints_made]; exact h2
    rowM := by unfold Row; rw [← ints_made]; exact h3
    rowT := by
      rw [← rows_none]
      have : madeCells #[Value.slice none 0 0] n = (List.replicate n (Value.slice none 0 0)).toArray := by
        apply Array.toList_inj.1
        rw [toList_madeCells_one]
      rw [← this]; exact h4
    page := fun p c xs e => absurd e (nosm p c xs)
    lw := by rw [zeros_length, freshK_length]
    lk := by rw [zeros_length, freshK_length]
    lm := by rw [zeros_length, freshK_length]
    r0 := if_pos rfl
    r1 := by show r gw = _; simp only [r]; rw [if_neg (by omega), if_pos trivial]
    r2 := by show r gk = _; simp only [r]; rw [if_neg (by omega), if_neg (by omega), if_pos trivial]
    r3 := by show r gm = _; simp only [r]; rw [if_neg (by omega), if_neg (by omega), if_neg (by omega), if_pos trivial]
    r4 := by show r gt = _; simp only [r]; rw [if_neg (by omega), if_neg (by omega), if_neg (by omega), if_neg (by omega)]
    rp := fun p c xs e => absurd e (nosm p c xs)
    f := by simp
    fp := fun p c xs e => absurd e (nosm p c xs)
    lt := by
      intro k hk
      have l0 := lt_of_block h0
      simp only [List.mem_cons, List.not_mem_nil, or_false] at hk
      omega }
  have := base.setK 0 (-1)
  rw [← kind_fresh n hn] at this
  refine ⟨[mb, gw, gk, gm, gt], ⟨⟨gw, gk, gm, gt, fun _ => 0, r⟩, by rw [freshK_big n hn]; exact this⟩, ?_, fun k hk => ?_⟩
  · exact ((hK.mono (T := [gk]) (by simp)).trans (Keep.setCell _ _ (by simp))).drop (fun k e hlt => by simp at e; omega)
  · simp only [List.mem_cons, List.not_mem_nil, or_false] at hk
    omega

set_option maxHeartbeats 8000000 in
theorem rnews_ok (n : Nat) (w : World) (h1 : 1 ≤ n) (h2 : n ≤ 256) :
    Calls Tryz.prog 59 #[.int .i64 n] w fun e w' => ∃ mb F, e = .returned (.pointer (some ⟨mb, 0, none⟩)) ∧ IsRef w' mb F (zeros (64 * n)) (freshK n) ∧ Keep [] w w' ∧ ∀ k, k ∈ F → w.heap.size ≤ k := by
  have hmk0 : ∀ w, (Instr.makeSlice 25 (.int .i64 ((n : Int) * 64)) (.int .i64 ((n : Int) * 64))).run Tryz.prog w = .ok (.slice (some ⟨w.heap.size, 0, none⟩) (n * 64) (n * 64)) (w.alloc (.cells (madeCells #[.int .i64 0] (n * 64)) 3)) := by
    intro w
    have := run_make_row' (P := Tryz.prog) 25 3 (.int .i64 0) 8 Tryz.underlying25 Tryz.infoInt rfl .i64 .i64 (n * 64) (by omega) (by omega) w
    rw [show ((n * 64 : Nat) : Int) = (n : Int) * 64 from by omega] at this
    exact this
  have hmk1 : ∀ w, (Instr.makeSlice 25 (.int .i64 (n : Int)) (.int .i64 (n : Int))).run Tryz.prog w = .ok (.slice (some ⟨w.heap.size, 0, none⟩) n n) (w.alloc (.cells (madeCells #[.int .i64 0] n) 3)) :=
    fun w => run_make_row' (P := Tryz.prog) 25 3 (.int .i64 0) 8 Tryz.underlying25 Tryz.infoInt rfl .i64 .i64 n (by omega) (by omega) w
  have hmk2 : ∀ w, (Instr.makeSlice 84 (.int .i64 (n : Int)) (.int .i64 (n : Int))).run Tryz.prog w = .ok (.slice (some ⟨w.heap.size, 0, none⟩) n n) (w.alloc (.cells (madeCells #[.slice none 0 0] n) 137)) :=
    fun w => run_make_row' (P := Tryz.prog) 84 137 (.slice none 0 0) 24 Tryz.underlying84 Tryz.infoBits rfl .i64 .i64 n (by omega) (by omega) w
  have hw64 : IntKind.i64.wrap ((n : Int) * 64) = (n : Int) * 64 := IntWalk.i64_in _ (by omega)
  go_enter Tryz.func59, Tryz.ntmps59
  go_wp2
  go_cut [3] from 4 to 14 (fun v wz => ∃ mb gw gk gm gt, v = .pointer (some ⟨mb, 0, none⟩) ∧ Hid (Laid n w wz mb gw gk gm gt))
  case first =>
    go_region
    all_goals
      go_wp2
      go_meet
      exact ⟨_, _, _, _, _, rfl, (five_new w _ _ _ _ _).2.2.2.2.1, by first | exact (five_new w _ _ _ _ _).1 | exact (five_new w _ _ _ _ _).2.1 | exact (five_new w _ _ _ _ _).2.2.1 | exact (five_new w _ _ _ _ _).2.2.2.1, by first | exact (five_new w _ _ _ _ _).1 | exact (five_new w _ _ _ _ _).2.1 | exact (five_new w _ _ _ _ _).2.2.1 | exact (five_new w _ _ _ _ _).2.2.2.1, by first | exact (five_new w _ _ _ _ _).1 | exact (five_new w _ _ _ _ _).2.1 | exact (five_new w _ _ _ _ _).2.2.1 | exact (five_new w _ _ _ _ _).2.2.2.1, by first | exact (five_new w _ _ _ _ _).1 | exact (five_new w _ _ _ _ _).2.1 | exact (five_new w _ _ _ _ _).2.2.1 | exact (five_new w _ _ _ _ _).2.2.2.1, (five_new w _ _ _ _ _).2.2.2.2.2, by omega, by omega, by omega, by omega, by omega, by omega⟩
  case rest =>
    obtain ⟨mb, gw, gk, gm, gt, rfl, HL⟩ := hcut
    have hh := HL.out.1
    have c1 : wc.cell? ⟨mb, 1, none⟩ = some (.slice (some ⟨gk, 0, none⟩) n n) := by simp [World.cell?, hh]
    have hk := HL.out.2.2.1
    rw [ints_made] at hk
    have hRk : Row wc 3 gk (zeros n) := hk
    have c2 := hRk.cell (i := 0) (by rw [zeros_length]; omega)
    have c3 := hRk.free 0
    have HF := (show Hid (∃ F, IsRef (wc.setCell ⟨gk, 0, none⟩ (.int .i64 (-1))) mb F (zeros (64 * n)) (freshK n) ∧ Keep [] w (wc.setCell ⟨gk, 0, none⟩ (.int .i64 (-1))) ∧ ∀ k, k ∈ F → w.heap.size ≤ k) from HL.out.ref h1)
    clear hh hk hRk
    go_wp2
    go_ret
    obtain ⟨F, hF⟩ := HF.out
    exact ⟨mb, F, rfl, hF⟩

end Go.Proofs.YtgpidokklhjfdaaGreat

/-
  What the document's own pages (a plain list of bools) do: NewPages, Take, Give.
-/
namespace Go.Proofs.YtgpidokklhjfdaaGreat
open Go.RowKit

theorem run_dn (g n c k : Nat) (xs : List Bool) (w : World) (hr : BRow w 4 g xs) (hxn : xs.length = n) (hn : n ≤ 16384) (hk1 : 1 ≤ k) :
    Calls Tryz.prog 93 #[.slice (some ⟨g, 0, none⟩) n c, .int .i64 0, .int .i64 k] w fun e w' => e = .returned (.int .i64 (runR xs 0 k)) ∧ w = w' := by
  have := rrun_any g n c 0 k xs w hr hxn hn (by omega)
  unfold runI at this
  rw [if_neg (by omega), Int.toNat_natCast] at this
  exact this

end Go.Proofs.YtgpidokklhjfdaaGreat

/-
  New, Alloc and Free of package space.
-/
namespace Go.Proofs.YtgpidokklhjfdaaGreat
open Go.RowKit

theorem Tryz.infoPage : (Tryz.prog.info? 160).map (fun i => (i.zero, i.size, i.bytes)) = some (some (.pointer none), 1, 8) := by kernel_rfl

/-- A row of nils. -/
def nils (n : Nat) : List Value := List.replicate n (.pointer none)
theorem nils_made (n : Nat) : madeCells #[.pointer none] n = (nils n).toArray := by
  apply Array.toList_inj.1
  rw [toList_madeCells_one]
  simp [nils]
theorem nils_ptrs (n : Nat) (L : Lay) : nils n = ptrs L (freshK n) := by
  apply List.ext_getElem?
  intro q
  rcases Nat.lt_or_ge q n with hq | hq
  · rw [ptrs_get L (freshK n) q (by rw [freshK_length]; exact hq), freshK_at n q (by omega)]
    unfold nils
    rw [List.getElem?_replicate, if_pos hq]
    split <;> rfl
  · rw [List.getElem?_eq_none (by simpa [nils] using hq), List.getElem?_eq_none (by rw [ptrs_length, freshK_length]; exact hq)]

set_option maxHeartbeats 1000000 in
theorem snew_no (n : Int) (w : World) (h : ¬ (1 ≤ n ∧ n ≤ 256)) :
    Calls Tryz.prog 49 #[.int .i64 n] w fun e w' => e = .returned (.tuple #[.pointer none, .int .i64 1]) ∧ w = w' := by
  go_enter Tryz.func49, Tryz.ntmps49
  go_wp2_with (go_at_call 78; refine (new_no _ _ h).mono ?_; rintro e w' ⟨rfl, rfl⟩)
  go_ret2
  exact ⟨rfl, rfl⟩

/-- What New makes, whichever of its rows is made first. -/
theorem snew_is (w wz : World) (n sb ab ag pb b g gs gl : Nat) (hn : 1 ≤ n) (hA : IsArena wz ab ag (zeros (n * 64))) (hP : IsPages wz pb b g (fresh n)) (hd : wz.heap[sb]? = some (.cells #[.pointer (some ⟨ab, 0, none⟩), .pointer (some ⟨pb, 0, none⟩), .slice (some ⟨gs, 0, none⟩) n n, .slice (some ⟨gl, 0, none⟩) n n] 112 (0, 0)))
    (hs : wz.heap[gs]? = some (.cells (nils n).toArray 160 (0, 0))) (hl : Row wz 3 gl (zeros n)) (hK : Keep [] w wz)
    (g1 : w.heap.size ≤ ab ∧ w.heap.size ≤ ag ∧ w.heap.size ≤ pb ∧ w.heap.size ≤ b ∧ w.heap.size ≤ g ∧ w.heap.size ≤ gs ∧ w.heap.size ≤ gl ∧ w.heap.size ≤ sb)
    (ho : (ab < pb ∧ ab < b ∧ ab < g) ∧ (ag < pb ∧ ag < b ∧ ag < g) ∧ (pb < gs ∧ b < gs ∧ g < gs) ∧ (pb < gl ∧ b < gl ∧ g < gl) ∧ gs ≠ gl ∧ gs < sb ∧ gl < sb) :
    ∃ F, IsSpace wz sb F (zeros (64 * n)) (freshK n) ∧ Keep [] w wz ∧ sb ∈ F ∧ ∀ k, k ∈ F → w.heap.size ≤ k := by
  have n1 := hA.ne
  have n2 := hP.ne1
  have n3 := hP.ne2
  have n4 := hP.bits.ne
  have l1 := hA.lt
  have l2 := hP.lt
  have l3 := lt_of_block hd
  have l4 := lt_of_block hs
  have l5 := hl.lt
  let r : Nat → Nat := fun k => if k = sb then 0 else if k = ab then 1 else if k = ag then 2 else if k = pb then 3 else if k = b then 4 else if k = g then 5 else if k = gs then 6 else 7
  have none : ∀ p c xs, kat (freshK n) p ≠ .small c xs := by
    intro p c xs e
    rw [freshK_at n p hn] at e
    split at e <;> cases e
  refine ⟨[sb, ab, ag, pb, b, g, gs, gl], ⟨⟨ab, ag, pb, b, g, gs, gl, fun _ => (0, 0, 0), r⟩, ?_⟩, hK, by simp, fun k hk => ?_⟩
  · exact {
      head := by rw [freshK_length]; exact hd
      arena := by rw [Nat.mul_comm]; exact hA
      pages := by rw [freshK_taken n hn]; exact hP
      rowS := by rw [← nils_ptrs]; exact hs
      rowL := by rw [freshK_big n hn]; exact hl
      page := fun p c xs e => absurd e (none p c xs)
      len := by rw [zeros_length, freshK_length]
      r0 := if_pos rfl
      r1 := by show (if ab = sb then _ else if ab = ab then _ else _) = _; rw [if_neg (by omega), if_pos rfl]
      r2 := by show (if ag = sb then _ else if ag = ab then _ else if ag = ag then _ else _) = _; rw [if_neg (by omega), if_neg (by omega), if_pos rfl]
      r3 := by show r pb = _; simp only [r]; rw [if_neg (by omega), if_neg (by omega), if_neg (by omega), if_pos trivial]
      r4 := by show r b = _; simp only [r]; rw [if_neg (by omega), if_neg (by omega), if_neg (by omega), if_neg (by omega), if_pos trivial]
      r5 := by show r g = _; simp only [r]; rw [if_neg (by omega), if_neg (by omega), if_neg (by omega), if_neg (by omega), if_neg (by omega), if_pos trivial]
      r6 := by show r gs = _; simp only [r]; rw [if_neg (by omega), if_neg (by omega), if_neg (by omega), if_neg (by omega), if_neg (by omega), if_neg (by omega), if_pos trivial]
      r7 := by show r gl = _; simp only [r]; rw [if_neg (by omega), if_neg (by omega), if_neg (by omega), if_neg (by omega), if_neg (by omega), if_neg (by omega), if_neg (by omega)]
      rp := fun p c xs e => absurd e (none p c xs)
      f := by simp
      fp := fun p c xs e => absurd e (none p c xs)
      lt := by
        intro k hk
        simp only [List.mem_cons, List.not_mem_nil, or_false] at hk
        omega }
  · simp only [List.mem_cons, List.not_mem_nil, or_false] at hk
    omega

theorem three_new (w : World) (o1 o2 o3 : Obj) : (((w.alloc o1).alloc o2).alloc o3).drew.heap[w.heap.size]? = some o1 ∧ (((w.alloc o1).alloc o2).alloc o3).drew.heap[w.heap.size + 1]? = some o2 ∧
    (((w.alloc o1).alloc o2).alloc o3).drew.heap[w.heap.size + 1 + 1]? = some o3 ∧ Keep [] w (((w.alloc o1).alloc o2).alloc o3).drew := by
  have k1 := Keep.alloc [] w o1
  have k2 := Keep.alloc [] (w.alloc o1) o2
  have k3 := Keep.alloc [] ((w.alloc o1).alloc o2) o3
  have k4 := Keep.drew [] (((w.alloc o1).alloc o2).alloc o3)
  have e1 := heap_alloc_new w o1
  have e2 := heap_alloc_new (w.alloc o1) o2
  have e3 := heap_alloc_new ((w.alloc o1).alloc o2) o3
  have z1 : (w.alloc o1).heap.size = w.heap.size + 1 := by simp
  have z2 : ((w.alloc o1).alloc o2).heap.size = w.heap.size + 1 + 1 := by simp
  rw [z1] at e2
  rw [z2] at e3
  exact ⟨k4.blk (k3.blk (k2.blk e1 (by simp)) (by simp)) (by simp), k4.blk (k3.blk e2 (by simp)) (by simp), k4.blk e3 (by simp), ((k1.trans k2).trans k3).trans k4⟩
set_option maxHeartbeats 2000000 in
theorem snew_ok (n : Nat) (w : World) (h1 : 1 ≤ n) (h2 : n ≤ 256) :
    Calls Tryz.prog 49 #[.int .i64 n] w fun e w' => ∃ sb F, e = .returned (.tuple #[.pointer (some ⟨sb, 0, none⟩), .int .i64 0]) ∧ IsSpace w' sb F (zeros (64 * n)) (freshK n) ∧ Keep [] w w' ∧ sb ∈ F ∧ ∀ k, k ∈ F → w.heap.size ≤ k := by
  have hmk1 : ∀ w, (Instr.makeSlice 25 (.int .i64 (n : Int)) (.int .i64 (n : Int))).run Tryz.prog w = .ok (.slice (some ⟨w.heap.size, 0, none⟩) n n) (w.alloc (.cells (madeCells #[.int .i64 0] n) 3)) :=
    fun w => run_make_row' (P := Tryz.prog) 25 3 (.int .i64 0) 8 Tryz.underlying25 Tryz.infoInt rfl .i64 .i64 n (by omega) (by omega) w
  have hmk2 : ∀ w, (Instr.makeSlice 110 (.int .i64 (n : Int)) (.int .i64 (n : Int))).run Tryz.prog w = .ok (.slice (some ⟨w.heap.size, 0, none⟩) n n) (w.alloc (.cells (madeCells #[.pointer none] n) 160)) :=
    fun w => run_make_row' (P := Tryz.prog) 110 160 (.pointer none) 8 Tryz.underlying110 Tryz.infoPage rfl .i64 .i64 n (by omega) (by omega) w
  go_enter Tryz.func49, Tryz.ntmps49
  go_wp2_with (first | (go_at_call 78; refine (new_ok n _ h1 h2).mono ?_; rintro e w1 ⟨ab, ag, rfl, hA, hK1, hab, hag⟩) | (go_at_call 79; refine (pnew_ok n _ h1 h2).mono ?_; rintro e w2 ⟨pb, b, g, rfl, hP, hK2, hpb, hb, hg⟩))
  have hA2 := hA.keep hK2 (by simp) (by simp)
  have ltA := hA.lt
  have ltP := hP.lt
  have sz1 := hK1.size
  have sz2 := hK2.size
  have hK3 := hK1.trans hK2
  have hP2 := hP
  clear hA hP hK1 hK2
  have HA := (show Hid (∃ F, IsSpace (((w2.alloc (.cells (madeCells #[.pointer none] n) 160)).alloc (.cells (madeCells #[.int .i64 0] n) 3)).alloc (.cells #[.pointer (some ⟨ab, 0, none⟩), .pointer (some ⟨pb, 0, none⟩), .slice (some ⟨w2.heap.size, 0, none⟩) n n, .slice (some ⟨w2.heap.size + 1, 0, none⟩) n n] 112)).drew (w2.heap.size + 1 + 1) F (zeros (64 * n)) (freshK n) ∧ Keep [] w (((w2.alloc (.cells (madeCells #[.pointer none] n) 160)).alloc (.cells (madeCells #[.int .i64 0] n) 3)).alloc (.cells #[.pointer (some ⟨ab, 0, none⟩), .pointer (some ⟨pb, 0, none⟩), .slice (some ⟨w2.heap.size, 0, none⟩) n n, .slice (some ⟨w2.heap.size + 1, 0, none⟩) n n] 112)).drew ∧ w2.heap.size + 1 + 1 ∈ F ∧ ∀ k, k ∈ F → w.heap.size ≤ k) from by
    obtain ⟨e1, e2, e3, k⟩ := three_new w2 (.cells (madeCells #[.pointer none] n) 160) (.cells (madeCells #[.int .i64 0] n) 3) (.cells #[.pointer (some ⟨ab, 0, none⟩), .pointer (some ⟨pb, 0, none⟩), .slice (some ⟨w2.heap.size, 0, none⟩) n n, .slice (some ⟨w2.heap.size + 1, 0, none⟩) n n] 112)
    refine snew_is w _ n _ ab ag pb b g w2.heap.size (w2.heap.size + 1) h1 (hA2.keep k (by simp) (by simp)) (hP2.keep k (by simp) (by simp) (by simp)) e3 (by rw [← nils_made]; exact e1) ?_ (hK3.trans k) (by omega) (by omega)
    unfold Row; rw [← ints_made]; exact e2)
  have HB := (show Hid (∃ F, IsSpace (((w2.alloc (.cells (madeCells #[.int .i64 0] n) 3)).alloc (.cells (madeCells #[.pointer none] n) 160)).alloc (.cells #[.pointer (some ⟨ab, 0, none⟩), .pointer (some ⟨pb, 0, none⟩), .slice (some ⟨w2.heap.size + 1, 0, none⟩) n n, .slice (some ⟨w2.heap.size, 0, none⟩) n n] 112)).drew (w2.heap.size + 1 + 1) F (zeros (64 * n)) (freshK n) ∧ Keep [] w (((w2.alloc (.cells (madeCells #[.int .i64 0] n) 3)).alloc (.cells (madeCells #[.pointer none] n) 160)).alloc (.cells #[.pointer (some ⟨ab, 0, none⟩), .pointer (some ⟨pb, 0, none⟩), .slice (some ⟨w2.heap.size + 1, 0, none⟩) n n, .slice (some ⟨w2.heap.size, 0, none⟩) n n] 112)).drew ∧ w2.heap.size + 1 + 1 ∈ F ∧ ∀ k, k ∈ F → w.heap.size ≤ k) from by
    obtain ⟨e1, e2, e3, k⟩ := three_new w2 (.cells (madeCells #[.int .i64 0] n) 3) (.cells (madeCells #[.pointer none] n) 160) (.cells #[.pointer (some ⟨ab, 0, none⟩), .pointer (some ⟨pb, 0, none⟩), .slice (some ⟨w2.heap.size + 1, 0, none⟩) n n, .slice (some ⟨w2.heap.size, 0, none⟩) n n] 112)
    refine snew_is w _ n _ ab ag pb b g (w2.heap.size + 1) w2.heap.size h1 (hA2.keep k (by simp) (by simp)) (hP2.keep k (by simp) (by simp) (by simp)) e3 (by rw [← nils_made]; exact e2) ?_ (hK3.trans k) (by omega) (by omega)
    unfold Row; rw [← ints_made]; exact e1)
  clear hA2 hP2 hK3
  go_region
  all_goals
    go_wp2
    go_ret2
    first
    | (obtain ⟨F, hF⟩ := HA.out; exact ⟨_, F, rfl, hF⟩)
    | (obtain ⟨F, hF⟩ := HB.out; exact ⟨_, F, rfl, hF⟩)

end Go.Proofs.YtgpidokklhjfdaaGreat

/-
  Alloc of package space.
-/
namespace Go.Proofs.YtgpidokklhjfdaaGreat
open Go.RowKit

/-- What a space has in memory later on lay there, or is new. -/
def Grows (w : World) (F F' : List Nat) : Prop := ∀ k, k ∈ F' → k ∈ F ∨ w.heap.size ≤ k
theorem Grows.refl (w : World) (F : List Nat) : Grows w F F := fun _ h => .inl h

/-- Page j, as one looks for room of class c. -/
theorem SpAt.look {F : List Nat} {w : World} {sb : Nat} {L : Lay} {ws : List Int} {ts : List Bool} {kd : List PK} (h : SpAt w sb L F ws ts kd) (hw : WF kd) {c j : Nat} (hc : c < 5) (hj : j < kd.length) :
    (w.cell? ⟨L.gs, j, none⟩ = some (.pointer none) ∧ (kat kd j).has c = false) ∨
    (∃ (q1 b g s : Nat) (xs : List Bool), w.cell? ⟨L.gs, j, none⟩ = some (.pointer (some ⟨q1, 0, none⟩)) ∧ IsPage w q1 b g s xs ∧ s ≠ sz c ∧ (kat kd j).has c = false) ∨
    (∃ (q1 b g : Nat) (xs : List Bool), w.cell? ⟨L.gs, j, none⟩ = some (.pointer (some ⟨q1, 0, none⟩)) ∧ IsPage w q1 b g (sz c : Nat) xs ∧ (kat kd j).has c = !allB xs) := by
  have hcs := h.cs hj
  cases e : kat kd j with
  | small d xs =>
    rw [e] at hcs
    obtain ⟨hd, _, _⟩ := hw.small j d xs e
    have hP := h.page j d xs e
    rw [(sz_facts d hd).1] at hP
    by_cases hdc : d = c
    · subst hdc
      exact .inr (.inr ⟨_, _, _, xs, hcs, hP, by simp [PK.has]⟩)
    · refine .inr (.inl ⟨_, _, _, _, xs, hcs, hP, fun e' => hdc (sz_inj d c hd hc e'), by simp [PK.has, hdc]⟩)
  | _ => rw [e] at hcs; exact .inl ⟨hcs, rfl⟩

theorem bool_no {a b : Bool} (h : a = false) (e : a = !b) : b = true := by subst h; cases b <;> simp at e ⊢
theorem bool_yes {a b : Bool} (h : a = true) (e : a = !b) : b = false := by subst h; cases b <;> simp at e ⊢
theorem sizes_at (c : Nat) (h : c < 5) : sizesL[c]?.getD 0 = (sz c : Nat) := (sz_facts c h).1

set_option maxHeartbeats 2000000 in
theorem room_old (sb c p : Nat) (L : Lay) (F : List Nat) (ws : List Int) (ts : List Bool) (kd : List PK) (w : World) (h : SpAt w sb L F ws ts kd) (hw : WF kd) (hc : c < 5) (hp : nextR (hasL c kd) 0 true = p) :
    Calls Tryz.prog 112 #[.pointer (some ⟨sb, 0, none⟩), .int .i64 c] w fun e w' => e = .returned (.tuple #[.int .i64 p, .int .i64 0]) ∧ Keep [] w w' := by
  obtain ⟨hpl, hpv, hpn⟩ : p < kd.length ∧ (kat kd p).has c = true ∧ ∀ t, t < p → (kat kd t).has c = false := by
    rcases nextR_spec (hasL c kd) true _ 0 rfl with ⟨e, _⟩ | ⟨j, e, _, e2, e3, e4⟩
    · rw [hp] at e; omega
    · obtain rfl : p = j := by rw [hp] at e; omega
      rw [hasL_get] at e3
      rw [hasL_length] at e2
      refine ⟨e2, e3, fun t ht => ?_⟩
      have := e4 t (by omega) ht
      rw [hasL_get] at this
      simpa using this
  obtain ⟨s, hs⟩ : ∃ s, sz c = s := ⟨_, rfl⟩
  have HSZ := (show Hid (sz c = s) from hs)
  have HSL := (show Hid (sizesL[c]?.getD 0 = (s : Nat)) from by show _ = _; rw [sizes_at c hc, hs])
  have hs2 : 2 ≤ s := by rw [← hs]; exact (sz_facts c hc).2.2.1
  obtain ⟨n, hn⟩ : ∃ n, kd.length = n := ⟨_, rfl⟩
  have HN := (show Hid (kd.length = n) from hn)
  have hn2 : n ≤ 256 := by rw [← hn]; exact hw.len2
  rw [hn] at hpl
  have HW := (show Hid (WF kd) from hw)
  have HS := (show Hid (SpAt w sb L F ws ts kd) from h)
  have HPV := (show Hid ((kat kd p).has c = true) from hpv)
  have HPN := (show Hid (∀ t, t < p → (kat kd t).has c = false) from hpn)
  clear hs hn hw h hp hpv hpn
  go_enter Tryz.func112, Tryz.ntmps112
  go_wp2_with (go_at_call 104; refine (sizes_any _).mono ?_; rintro e w1 ⟨gz, rfl, hr, hK, hgz⟩; have hx := hr.cell (i := c) hc; rw [HSL.out] at hx; have hS1 := HS.out.keep0 hK; have hc2 := hS1.c2; rw [HN.out] at hc2)
  have HS1 := (show Hid (SpAt w1 sb L F ws ts kd) from hS1)
  clear hS1 hr hx HS
  go_loop [20] (fun i => ∃ j : Nat, i = .int .i64 j ∧ j ≤ p) (fun i => n - (intOf i).toNat)
  case atStart => exact ⟨0, rfl, by omega⟩
  case round =>
    obtain ⟨j, rfl, hj⟩ := hrel
    by_cases hlt : j < p
    · have HF := HPN.out j hlt
      rcases HS1.out.look HW.out hc (j := j) (by rw [HN.out]; omega) with ⟨hcs, _⟩ | ⟨q1, b, g, s', xs, hcs, hP, hne, _⟩ | ⟨q1, b, g, xs, hcs, hP, hh⟩
      · have hd : decide ((0 : Int) = (s : Int)) = false := by rw [decide_eq_false_iff_not]; omega
        clear HF
        go_wp2_with (first | (go_at_call 100; refine (kwords_nil _).mono ?_; rintro e w' ⟨rfl, rfl⟩))
        go_round
        case rel => exact ⟨j + 1, by go_num, by omega⟩
        case measure => simp [intOf]; omega
      · rw [HSZ.out] at hne
        have hd : decide ((s' : Int) = (s : Int)) = false := by rw [decide_eq_false_iff_not]; omega
        clear HF
        go_wp2_with (first | (go_at_call 100; refine (kwords_any q1 b g _ _ _ hP).mono ?_; rintro e w' ⟨rfl, rfl⟩))
        go_round
        case rel => exact ⟨j + 1, by go_num, by omega⟩
        case measure => simp [intOf]; omega
      · rw [HSZ.out] at hP
        have HA := (show Hid (allB xs = true) from bool_no HF hh)
        clear HF hh
        go_wp2_with (first | (go_at_call 100; refine (kwords_any q1 b g _ _ _ hP).mono ?_; rintro e w' ⟨rfl, rfl⟩) | (go_at_call 115; refine (kfull_any q1 b g _ _ _ hP).mono ?_; rw [HA.out]; rintro e w' ⟨rfl, rfl⟩))
        go_round
        case rel => exact ⟨j + 1, by go_num, by omega⟩
        case measure => simp [intOf]; omega
    · obtain rfl : j = p := by omega
      have HF := HPV.out
      rcases HS1.out.look HW.out hc (j := j) (by rw [HN.out]; omega) with ⟨_, hh⟩ | ⟨q1, b, g, s', xs, hcs, hP, hne, hh⟩ | ⟨q1, b, g, xs, hcs, hP, hh⟩
      · rw [HF] at hh; cases hh
      · rw [HF] at hh; cases hh
      · rw [HSZ.out] at hP
        have HA := (show Hid (allB xs = false) from bool_yes HF hh)
        clear HF hh
        go_wp2_with (first | (go_at_call 100; refine (kwords_any q1 b g _ _ _ hP).mono ?_; rintro e w' ⟨rfl, rfl⟩) | (go_at_call 115; refine (kfull_any q1 b g _ _ _ hP).mono ?_; rw [HA.out]; rintro e w' ⟨rfl, rfl⟩))
        go_ret2
        exact ⟨rfl, hK⟩

theorem none_has {c : Nat} {kd : List PK} (h : nextR (hasL c kd) 0 true = -1) : ∀ t, (kat kd t).has c = false := by
  intro t
  rcases nextR_spec (hasL c kd) true _ 0 rfl with ⟨_, e⟩ | ⟨j, e, _⟩
  · rcases Nat.lt_or_ge t kd.length with ht | ht
    · have := e t (by omega) (by rw [hasL_length]; exact ht)
      rw [hasL_get] at this
      simpa using this
    · rw [kat_out kd t ht]; rfl
  · rw [h] at e; omega

set_option maxHeartbeats 2000000 in
theorem room_full (sb c : Nat) (L : Lay) (F : List Nat) (ws : List Int) (ts : List Bool) (kd : List PK) (w : World) (h : SpAt w sb L F ws ts kd) (hw : WF kd) (hc : c < 5) (hpn : ∀ t, (kat kd t).has c = false) (hr : runR ts 0 1 = -1) :
    Calls Tryz.prog 112 #[.pointer (some ⟨sb, 0, none⟩), .int .i64 c] w fun e w' => e = .returned (.tuple #[.int .i64 0, .int .i64 3]) ∧ Keep [] w w' := by
  have HR := (show Hid (runR ts 0 1 = -1) from hr)
  clear hr
  obtain ⟨s, hs⟩ : ∃ s, sz c = s := ⟨_, rfl⟩
  have HSZ := (show Hid (sz c = s) from hs)
  have HSL := (show Hid (sizesL[c]?.getD 0 = (s : Nat)) from by show _ = _; rw [sizes_at c hc, hs])
  have hs2 : 2 ≤ s := by rw [← hs]; exact (sz_facts c hc).2.2.1
  obtain ⟨n, hn⟩ : ∃ n, kd.length = n := ⟨_, rfl⟩
  have HN := (show Hid (kd.length = n) from hn)
  have hn2 : n ≤ 256 := by rw [← hn]; exact hw.len2
  have HW := (show Hid (WF kd) from hw)
  have HS := (show Hid (SpAt w sb L F ws ts kd) from h)
  have HPN := (show Hid (∀ t, (kat kd t).has c = false) from hpn)
  clear hs hn hw h hpn
  go_enter Tryz.func112, Tryz.ntmps112
  go_wp2_with (go_at_call 104; refine (sizes_any _).mono ?_; rintro e w1 ⟨gz, rfl, hr, hK, hgz⟩; have hx := hr.cell (i := c) hc; rw [HSL.out] at hx; have hS1 := HS.out.keep0 hK; have hc2 := hS1.c2; rw [HN.out] at hc2)
  have HS1 := (show Hid (SpAt w1 sb L F ws ts kd) from hS1)
  clear hS1 hr hx HS
  go_loop [20] (fun i => ∃ j : Nat, i = .int .i64 j ∧ j ≤ n) (fun i => n - (intOf i).toNat)
  case atStart => exact ⟨0, rfl, by omega⟩
  case round =>
    obtain ⟨j, rfl, hj⟩ := hrel
    by_cases hlt : j < n
    · have HF := HPN.out j
      rcases HS1.out.look HW.out hc (j := j) (by rw [HN.out]; omega) with ⟨hcs, _⟩ | ⟨q1, b, g, s', xs, hcs, hP, hne, _⟩ | ⟨q1, b, g, xs, hcs, hP, hh⟩
      · have hd : decide ((0 : Int) = (s : Int)) = false := by rw [decide_eq_false_iff_not]; omega
        clear HF
        go_wp2_with (first | (go_at_call 100; refine (kwords_nil _).mono ?_; rintro e w' ⟨rfl, rfl⟩))
        go_round
        case rel => exact ⟨j + 1, by go_num, by omega⟩
        case measure => simp [intOf]; omega
      · rw [HSZ.out] at hne
        have hd : decide ((s' : Int) = (s : Int)) = false := by rw [decide_eq_false_iff_not]; omega
        clear HF
        go_wp2_with (first | (go_at_call 100; refine (kwords_any q1 b g _ _ _ hP).mono ?_; rintro e w' ⟨rfl, rfl⟩))
        go_round
        case rel => exact ⟨j + 1, by go_num, by omega⟩
        case measure => simp [intOf]; omega
      · rw [HSZ.out] at hP
        have HA := (show Hid (allB xs = true) from bool_no HF hh)
        clear HF hh
        go_wp2_with (first | (go_at_call 100; refine (kwords_any q1 b g _ _ _ hP).mono ?_; rintro e w' ⟨rfl, rfl⟩) | (go_at_call 115; refine (kfull_any q1 b g _ _ _ hP).mono ?_; rw [HA.out]; rintro e w' ⟨rfl, rfl⟩))
        go_round
        case rel => exact ⟨j + 1, by go_num, by omega⟩
        case measure => simp [intOf]; omega
    · obtain rfl : j = n := by omega
      have hc1 := HS1.out.c1
      have hP := HS1.out.pages
      go_wp2_with (first | (go_at_call 114; refine (ptake_no L.pb L.b L.g 1 ts _ hP (by omega) (by omega) HR.out).mono ?_; rintro e w' ⟨rfl, rfl⟩))
      go_ret2
      exact ⟨rfl, hK⟩

set_option maxHeartbeats 4000000 in
theorem room_new (sb c p : Nat) (L : Lay) (F : List Nat) (ws : List Int) (kd : List PK) (w : World) (h : SpAt w sb L F ws (takenL kd) kd) (hw : WF kd) (hc : c < 5) (hpn : ∀ t, (kat kd t).has c = false) (hr : runR (takenL kd) 0 1 = p) (hcl : Clear (takenL kd) p 1) :
    Calls Tryz.prog 112 #[.pointer (some ⟨sb, 0, none⟩), .int .i64 c] w fun e w' => ∃ L' F', e = .returned (.tuple #[.int .i64 p, .int .i64 0]) ∧ SpAt w' sb L' F' ws (takenL (kd.set p (.small c (offs (roomOf c))))) (kd.set p (.small c (offs (roomOf c)))) ∧ Keep F w w' ∧ Grows w F F' := by
  have hpl : p < kd.length := by have := hcl.1; rw [takenL_length] at this; omega
  have HKF := (show Hid (kat kd p = .free) from (clear_free hcl).2 p (by omega) (by omega))
  have HPT := (show Hid (putR (takenL kd) p 1 true = takenL (kd.set p (.small c (offs (roomOf c))))) from by
    show _ = _
    rw [putR_one, taken_set]; rfl)
  have HR := (show Hid (runR (takenL kd) 0 1 = p) from hr)
  have HCL := (show Hid (Clear (takenL kd) p 1) from hcl)
  have HPL := (show Hid (p < kd.length) from hpl)
  clear hr hcl
  obtain ⟨s, hs⟩ : ∃ s, sz c = s := ⟨_, rfl⟩
  have HSZ := (show Hid (sz c = s) from hs)
  have HSL := (show Hid (sizesL[c]?.getD 0 = (s : Nat)) from by show _ = _; rw [sizes_at c hc, hs])
  have hs2 : 2 ≤ s := by rw [← hs]; exact (sz_facts c hc).2.2.1
  obtain ⟨n, hn⟩ : ∃ n, kd.length = n := ⟨_, rfl⟩
  have HN := (show Hid (kd.length = n) from hn)
  have hn2 : n ≤ 256 := by rw [← hn]; exact hw.len2
  have HW := (show Hid (WF kd) from hw)
  have HS := (show Hid (SpAt w sb L F ws (takenL kd) kd) from h)
  have HPN := (show Hid (∀ t, (kat kd t).has c = false) from hpn)
  rw [hn] at hpl
  clear hs hn hw h hpn
  go_enter Tryz.func112, Tryz.ntmps112
  go_wp2_with (go_at_call 104; refine (sizes_any _).mono ?_; rintro e w1 ⟨gz, rfl, hr, hK, hgz⟩; have hx := hr.cell (i := c) hc; rw [HSL.out] at hx; have hS1 := HS.out.keep0 hK; have hc2 := hS1.c2; rw [HN.out] at hc2)
  have HS1 := (show Hid (SpAt w1 sb L F ws (takenL kd) kd) from hS1)
  clear hS1 hr hx HS
  go_loop [20] (fun i => ∃ j : Nat, i = .int .i64 j ∧ j ≤ n) (fun i => n - (intOf i).toNat)
  case atStart => exact ⟨0, rfl, by omega⟩
  case round =>
    obtain ⟨j, rfl, hj⟩ := hrel
    by_cases hlt : j < n
    · have HF := HPN.out j
      rcases HS1.out.look HW.out hc (j := j) (by rw [HN.out]; omega) with ⟨hcs, _⟩ | ⟨q1, b, g, s', xs, hcs, hP, hne, _⟩ | ⟨q1, b, g, xs, hcs, hP, hh⟩
      · have hd : decide ((0 : Int) = (s : Int)) = false := by rw [decide_eq_false_iff_not]; omega
        clear HF
        go_wp2_with (first | (go_at_call 100; refine (kwords_nil _).mono ?_; rintro e w' ⟨rfl, rfl⟩))
        go_round
        case rel => exact ⟨j + 1, by go_num, by omega⟩
        case measure => simp [intOf]; omega
      · rw [HSZ.out] at hne
        have hd : decide ((s' : Int) = (s : Int)) = false := by rw [decide_eq_false_iff_not]; omega
        clear HF
        go_wp2_with (first | (go_at_call 100; refine (kwords_any q1 b g _ _ _ hP).mono ?_; rintro e w' ⟨rfl, rfl⟩))
        go_round
        case rel => exact ⟨j + 1, by go_num, by omega⟩
        case measure => simp [intOf]; omega
      · rw [HSZ.out] at hP
        have HA := (show Hid (allB xs = true) from bool_no HF hh)
        clear HF hh
        go_wp2_with (first | (go_at_call 100; refine (kwords_any q1 b g _ _ _ hP).mono ?_; rintro e w' ⟨rfl, rfl⟩) | (go_at_call 115; refine (kfull_any q1 b g _ _ _ hP).mono ?_; rw [HA.out]; rintro e w' ⟨rfl, rfl⟩))
        go_round
        case rel => exact ⟨j + 1, by go_num, by omega⟩
        case measure => simp [intOf]; omega
    · obtain rfl : j = n := by omega
      have hc1 := HS1.out.c1
      have hP := HS1.out.pages
      have hp0 : decide ((p : Int) < 0) = false := by rw [decide_eq_false_iff_not]; omega
      go_wp2_with (first | (go_at_call 114; refine (ptake_yes L.pb L.b L.g 1 p _ _ hP (by omega) HR.out HCL.out.1).mono ?_; rintro e w3 ⟨rfl, hP3, hK3⟩))
      have hS3 := (HS1.out.turn hK3 hP3).keep0 (Keep.drew [] w3)
      rw [HPT.out] at hS3
      have hc3 := hS3.c2
      rw [HN.out] at hc3
      have hK4 := (hK3.trans (Keep.drew [L.g] w3))
      have hne : sb ≠ L.gs := ne_of_role hS3.r0 hS3.r6 (by omega)
      have hne2 : L.gs ≠ sb := fun e => hne e.symm
      clear hc1 hP hP3 hK3 hc2
      go_region_held3 (fun wz => wz.cell? ⟨sb, 2, none⟩ = some (.slice (some ⟨L.gs, 0, none⟩) j j)) (go_keep) (first | (go_at_call 116; refine (knew_ok c _ hc).mono ?_; rintro e w5 ⟨q1, q2, q3, rfl, hP5, hK5, hq1, hq2, hq3⟩; have hS5 := hS3.keep0 hK5; have hc5 := hS5.c2; rw [HN.out] at hc5; have hcs5 := hS5.cs HPL.out; rw [HKF.out] at hcs5; have hfs5 := hS5.fs p))
      have hlt5 := hP5.lt
      have hF := HS1.out.lt
      have hsz3 := hK4.size
      have hsz1 := hK.size
      have HG := (show Hid (SpAt (w5.setCell ⟨L.gs, p, none⟩ (.pointer (some ⟨q1, 0, none⟩))) sb (L.more p q1 q2 q3) (q1 :: q2 :: q3 :: F) ws (takenL (kd.set p (.small c (offs (roomOf c))))) (kd.set p (.small c (offs (roomOf c))))) from
        hS5.gain HPL.out HKF.out hP5 ⟨fun e => by have := hF _ e; omega, fun e => by have := hF _ e; omega, fun e => by have := hF _ e; omega⟩)
      have f := HS1.out.f
      have HK6 := (show Hid (Keep F w (w5.setCell ⟨L.gs, p, none⟩ (.pointer (some ⟨q1, 0, none⟩)))) from
        (((hK.mono (T := F) (by simp)).trans (hK4.mono (fun k e => by simp at e; subst e; exact f.2.2.2.2.2.1))).trans (hK5.mono (by simp))).trans (Keep.setCell _ _ f.2.2.2.2.2.2.1))
      have HGR := (show Hid (Grows w F (q1 :: q2 :: q3 :: F)) from fun k e => by
        simp only [List.mem_cons] at e
        rcases e with e | e | e | e
        · right; omega
        · right; omega
        · right; omega
        · exact .inl e)
      clear hS5 hP5 hK5 hS3 hK4 f hF
      go_wp2_with fail
      go_ret2
      exact ⟨_, _, rfl, HG.out, HK6.out, HGR.out⟩

end Go.Proofs.YtgpidokklhjfdaaGreat

/-
  Alloc of the document's own space: no words, and more than a class has.
-/
namespace Go.Proofs.YtgpidokklhjfdaaGreat
open Go.RowKit

theorem two_set {w : World} {bx : Nat} {t : TypeId} {v0 v1 a b : Value} (h : w.heap[bx]? = some (.cells #[v0, v1] t (0, 0))) : ((w.setCell ⟨bx, 0, none⟩ a).setCell ⟨bx, 1, none⟩ b).heap[bx]? = some (.cells #[a, b] t (0, 0)) := by
  have z1 := heap_setCell_same w bx 0 _ _ a h
  have z2 := heap_setCell_same _ bx 1 _ _ b z1
  simpa using z2
theorem Keep.two {S : List Nat} {w w2 : World} {bx : Nat} {a b : Value} (h : Keep S w w2) (hb : w.heap.size ≤ bx) : Keep S w ((w2.setCell ⟨bx, 0, none⟩ a).setCell ⟨bx, 1, none⟩ b) :=
  (((h.mono (T := bx :: S) (fun _ e => List.mem_cons_of_mem _ e)).trans (Keep.setCell _ _ (by simp))).trans (Keep.setCell _ _ (by simp))).drop (fun k e hlt => by
    rcases List.mem_cons.1 e with e | e
    · omega
    · exact e)

set_option maxHeartbeats 2000000 in
theorem ralloc_arg (mb : Nat) (n : Int) (w : World) (h : blockI n = 0) :
    Calls Tryz.prog 62 #[.pointer (some ⟨mb, 0, none⟩), .int .i64 n] w fun e w' => e = .returned (.agg #[.int .i64 0, .int .i64 1]) ∧ Keep [] w w' := by
  have HB := (show Hid (blockI n = 0) from h)
  have hx := heap_alloc_new w (.cells #[.int .i64 0, .int .i64 0] 73)
  have hK := Keep.alloc [] w (.cells #[.int .i64 0, .int .i64 0] 73)
  obtain ⟨bx, hbx⟩ : ∃ bx, w.heap.size = bx := ⟨_, rfl⟩
  rw [hbx] at hx
  clear h
  go_enter Tryz.func62, Tryz.ntmps62
  go_wp2_with fail
  refine (rblock_any _ _).mono ?_
  rw [HB.out]
  rintro e w1 ⟨rfl, hK1⟩
  have hx1 := hK1.blk hx (by simp)
  have f0 : w1.frozen? ⟨bx, 0, none⟩ = false := by simp [World.frozen?, hx1]
  have f1 : w1.frozen? ⟨bx, 1, none⟩ = false := by simp [World.frozen?, hx1]
  have g0 : w1.cell? ⟨bx, 0, none⟩ = some (.int .i64 0) := by simp [World.cell?, hx1]
  have g1 : w1.cell? ⟨bx, 1, none⟩ = some (.int .i64 0) := by simp [World.cell?, hx1]
  have HK := (show Hid (∀ a b, Keep [] w ((w1.setCell ⟨bx, 0, none⟩ a).setCell ⟨bx, 1, none⟩ b)) from fun a b => Keep.two (hK.trans hK1) (by omega))
  go_wp2
  refine bodyPost_ret (results_cell_row rfl _ _ bx 73 #[.int .i64 0, .int .i64 1] (0, 0) _ rfl (two_set hx1) Tryz.underlying73 rfl (by kernel_rfl)) rfl ?_
  exact ⟨rfl, HK.out _ _⟩

set_option maxHeartbeats 4000000 in
theorem ralloc_over (mb k : Nat) (n : Int) (L : RLay) (F : List Nat) (ws : List Int) (kd : List PK) (w : World) (h : RpAt w mb L F ws (kindL kd) (bigL kd) kd) (hw : WF kd) (hc : classI n = -1) (hp : pagesI n = k) (hk1 : 1 ≤ k) (hr : runR (takenL kd) 0 k = -1) :
    Calls Tryz.prog 62 #[.pointer (some ⟨mb, 0, none⟩), .int .i64 n] w fun e w' => e = .returned (.agg #[.int .i64 0, .int .i64 3]) ∧ Keep [] w w' := by
  have hk16 : k ≤ 16 := by have := (pages_le n).2; omega
  have hb : blockI n = ((64 * k : Nat) : Int) := by rw [block_none n hc, hp]; omega
  obtain ⟨b, hbb⟩ : ∃ b, 64 * k = b := ⟨_, rfl⟩
  rw [hbb] at hb
  have HB := (show Hid (blockI n = (b : Nat)) from hb)
  have HC := (show Hid (classI n = -1) from hc)
  have hbn : decide ((b : Int) = 0) = false := by rw [decide_eq_false_iff_not]; omega
  have hq1 : (b : Int) / 64 = k := by omega
  have hq2 : (b : Int).tdiv 64 = k := by rw [Int.tdiv_eq_ediv_of_nonneg (by omega)]; exact hq1
  have HR := (show Hid (runR (takenL kd) 0 k = -1) from hr)
  have HM := (show Hid (RpAt w mb L F ws (kindL kd) (bigL kd) kd) from h)
  have HW := (show Hid (WF kd) from hw)
  have hx := heap_alloc_new w (.cells #[.int .i64 0, .int .i64 0] 73)
  have hK := Keep.alloc [] w (.cells #[.int .i64 0, .int .i64 0] 73)
  obtain ⟨bx, hbx⟩ : ∃ bx, w.heap.size = bx := ⟨_, rfl⟩
  rw [hbx] at hx
  obtain ⟨nn, hnn⟩ : ∃ nn, kd.length = nn := ⟨_, rfl⟩
  have HN := (show Hid (kd.length = nn) from hnn)
  have hn2 : nn ≤ 256 := by rw [← hnn]; exact hw.len2
  clear h hw hc hp hr hb hnn
  go_enter Tryz.func62, Tryz.ntmps62
  go_wp2_with fail
  refine (rblock_any _ _).mono ?_
  rw [HB.out]
  rintro e w1 ⟨rfl, hK1⟩
  go_wp2_with fail
  refine (rclass_any _ _).mono ?_
  rw [HC.out]
  rintro e w2 ⟨rfl, hK2⟩
  have hK3 := (hK.trans hK1).trans hK2
  have hM2 := HM.out.keep0 hK3
  go_wp2_with fail
  refine (rpages_ok mb L F ws (bigL kd) kd w2 hM2 HW.out.len1 HW.out.len2).mono ?_
  rw [HN.out]
  rintro e w3 ⟨g, rfl, hBR, hK4, hg⟩
  clear hM2
  go_wp2_with fail
  refine (run_dn g nn nn k (takenL kd) w3 hBR (by rw [takenL_length, HN.out]) (by omega) hk1).mono ?_
  rw [HR.out]
  rintro e w' ⟨rfl, rfl⟩
  have hx1 := ((hK1.trans hK2).trans hK4).blk hx (by simp)
  have f0 : w3.frozen? ⟨bx, 0, none⟩ = false := by simp [World.frozen?, hx1]
  have f1 : w3.frozen? ⟨bx, 1, none⟩ = false := by simp [World.frozen?, hx1]
  have g0 : w3.cell? ⟨bx, 0, none⟩ = some (.int .i64 0) := by simp [World.cell?, hx1]
  have g1 : w3.cell? ⟨bx, 1, none⟩ = some (.int .i64 0) := by simp [World.cell?, hx1]
  have HK := (show Hid (∀ a b, Keep [] w ((w3.setCell ⟨bx, 0, none⟩ a).setCell ⟨bx, 1, none⟩ b)) from fun a b => Keep.two (hK3.trans hK4) (by omega))
  go_wp2
  refine bodyPost_ret (results_cell_row rfl _ _ bx 73 #[.int .i64 0, .int .i64 3] (0, 0) _ rfl (two_set hx1) Tryz.underlying73 rfl (by kernel_rfl)) rfl ?_
  exact ⟨rfl, HK.out _ _⟩

/-- The kinds of pages that are taken one behind the other. -/
def sevens (ks : List Int) (p m : Nat) : List Int := ks.take p ++ List.replicate m 7 ++ ks.drop (p + m)
theorem sevens_length (ks : List Int) (p m : Nat) (h : p + m ≤ ks.length) : (sevens ks p m).length = ks.length := by simp [sevens]; omega
theorem sevens_get (xs : List Int) (o m i : Nat) (h : o + m ≤ xs.length) : (sevens xs o m)[i]?.getD 0 = if o ≤ i ∧ i < o + m then 7 else xs[i]?.getD 0 := by
  unfold sevens
  have h1 : (xs.take o).length = o := by simp; omega
  by_cases h2 : i < o
  · rw [if_neg (by omega), List.append_assoc, List.getElem?_append_left (by omega), List.getElem?_take, if_pos h2]
  · by_cases h3 : i < o + m
    · rw [if_pos ⟨by omega, h3⟩, List.getElem?_append_left (by simp; omega), List.getElem?_append_right (by omega), h1]
      rw [List.getElem?_replicate, if_pos (by omega)]; rfl
    · rw [if_neg (by omega), List.getElem?_append_right (by simp; omega)]
      simp only [List.length_append, h1, List.length_replicate, List.getElem?_drop]
      congr 2; omega
theorem sevens_step (ws : List Int) (a m : Nat) (h : a + m < ws.length) : (sevens ws a m).set (a + m) 7 = sevens ws a (m + 1) := by
  refine eq_of_getD (by rw [List.length_set, sevens_length _ _ _ (by omega), sevens_length _ _ _ (by omega)]) (fun t => ?_)
  rw [sevens_get _ _ _ _ (by omega)]
  by_cases e : t = a + m
  · subst e; rw [set_get_same _ _ _ (by rw [sevens_length _ _ _ (by omega)]; exact h), if_pos (by omega)]
  · rw [set_get_other _ _ _ _ (fun e' => e e'.symm), sevens_get _ _ _ _ (by omega)]
    by_cases e2 : a ≤ t ∧ t < a + m
    · rw [if_pos e2, if_pos (by omega)]
    · rw [if_neg e2, if_neg (by omega)]
theorem sevens_zero (ws : List Int) (a : Nat) : sevens ws a 0 = ws := by simp [sevens]
theorem kind_put (kd : List PK) (p k : Nat) (hk : 1 ≤ k) (h : p + k ≤ kd.length) : (sevens (kindL kd) p k).set p 6 = kindL (putParts kd p k) := by
  refine eq_of_getD (by rw [List.length_set, sevens_length _ _ _ (by rw [kindL_length]; exact h), kindL_length, kindL_length, putParts_length]) (fun t => ?_)
  rw [kindL_get, putParts_at _ _ _ _ h]
  by_cases e : t = p
  · subst e; rw [set_get_same _ _ _ (by rw [sevens_length _ _ _ (by rw [kindL_length]; exact h), kindL_length]; omega), if_pos (by omega), Nat.sub_self]; rfl
  · rw [set_get_other _ _ _ _ (fun e' => e e'.symm), sevens_get _ _ _ _ (by rw [kindL_length]; exact h), kindL_get]
    by_cases e2 : p ≤ t ∧ t < p + k
    · rw [if_pos e2, if_pos e2]
      obtain ⟨m, hm⟩ : ∃ m, t - p = m + 1 := ⟨t - p - 1, by omega⟩
      rw [hm]; rfl
    · rw [if_neg e2, if_neg e2]

set_option maxHeartbeats 4000000 in
theorem ralloc_large (mb k p : Nat) (n : Int) (L : RLay) (F : List Nat) (ws : List Int) (kd : List PK) (w : World) (h : RpAt w mb L F ws (kindL kd) (bigL kd) kd) (hw : WF kd) (hc : classI n = -1) (hp : pagesI n = k) (hk1 : 1 ≤ k) (hr : runR (takenL kd) 0 k = p) :
    Calls Tryz.prog 62 #[.pointer (some ⟨mb, 0, none⟩), .int .i64 n] w fun e w' => e = .returned (.agg #[.int .i64 ((64 * p : Nat) : Int), .int .i64 0]) ∧ RpAt w' mb L F (fill0 ws (64 * p) (64 * k)) (kindL (putParts kd p k)) (bigL (putParts kd p k)) (putParts kd p k) ∧ Keep F w w' := by
  have hk16 : k ≤ 16 := by have := (pages_le n).2; omega
  have hb : blockI n = ((64 * k : Nat) : Int) := by rw [block_none n hc, hp]; omega
  obtain ⟨b, hbb⟩ : ∃ b, 64 * k = b := ⟨_, rfl⟩
  rw [hbb] at hb
  have HB := (show Hid (blockI n = (b : Nat)) from hb)
  have HC := (show Hid (classI n = -1) from hc)
  have hbn : decide ((b : Int) = 0) = false := by rw [decide_eq_false_iff_not]; omega
  have hq1 : (b : Int) / 64 = k := by omega
  have hq2 : (b : Int).tdiv 64 = k := by rw [Int.tdiv_eq_ediv_of_nonneg (by omega)]; exact hq1
  have HR := (show Hid (runR (takenL kd) 0 k = p) from hr)
  have hcl := run_clear hk1 hr
  obtain ⟨hpl, hfree⟩ := clear_free hcl
  have HBG := (show Hid (bigL (putParts kd p k) = (bigL kd).set p k) from big_put kd p k hk1 hcl)
  have HKD := (show Hid ((sevens (kindL kd) p k).set p 6 = kindL (putParts kd p k)) from kind_put kd p k hk1 hpl)
  have HSO := (show Hid (∀ q, kat (putParts kd p k) q = kat kd q ∨ (∀ c xs, kat (putParts kd p k) q ≠ .small c xs) ∧ (∀ c xs, kat kd q ≠ .small c xs)) from fun q => by
    rw [putParts_at kd p k q hpl]
    by_cases e : p ≤ q ∧ q < p + k
    · right; rw [if_pos e, hfree q e.1 e.2]; simp
    · left; rw [if_neg e])
  have f := h.f
  have hFlt := h.lt
  have HM := (show Hid (RpAt w mb L F ws (kindL kd) (bigL kd) kd) from h)
  have HW := (show Hid (WF kd) from hw)
  have hx := heap_alloc_new w (.cells #[.int .i64 0, .int .i64 0] 73)
  have hK := Keep.alloc [] w (.cells #[.int .i64 0, .int .i64 0] 73)
  obtain ⟨bx, hbx⟩ : ∃ bx, w.heap.size = bx := ⟨_, rfl⟩
  rw [hbx] at hx
  obtain ⟨nn, hnn⟩ : ∃ nn, kd.length = nn := ⟨_, rfl⟩
  have HN := (show Hid (kd.length = nn) from hnn)
  have hn2 : nn ≤ 256 := by rw [← hnn]; exact hw.len2
  rw [hnn] at hpl
  have hbF : bx ∉ F := fun e => by have := hFlt _ e; omega
  obtain ⟨z, hz⟩ : ∃ z, p + k = z := ⟨_, rfl⟩
  have hzi : (p : Int) + k = z := by omega
  have hzn : z ≤ nn := by omega
  have hp0 : decide ((p : Int) < 0) = false := by rw [decide_eq_false_iff_not]; omega
  obtain ⟨y, hy⟩ : ∃ y : Nat, 64 * p = y := ⟨_, rfl⟩
  have hyi : (p : Int) * 64 = y := by omega
  rw [hy]
  rw [hbb]
  clear hcl hfree
  clear h hw hc hp hr hb hnn
  go_enter Tryz.func62, Tryz.ntmps62
  go_wp2_with fail
  refine (rblock_any _ _).mono ?_
  rw [HB.out]
  rintro e w1 ⟨rfl, hK1⟩
  go_wp2_with fail
  refine (rclass_any _ _).mono ?_
  rw [HC.out]
  rintro e w2 ⟨rfl, hK2⟩
  have hK3 := (hK.trans hK1).trans hK2
  have hM2 := HM.out.keep0 hK3
  go_wp2_with fail
  refine (rpages_ok mb L F ws (bigL kd) kd w2 hM2 HW.out.len1 HW.out.len2).mono ?_
  rw [HN.out]
  rintro e w3 ⟨g, rfl, hBR, hK4, hg⟩
  clear hM2
  go_wp2_with fail
  refine (run_dn g nn nn k (takenL kd) w3 hBR (by rw [takenL_length, HN.out]) (by omega) hk1).mono ?_
  rw [HR.out]
  rintro e w' ⟨rfl, rfl⟩
  have hx1 := ((hK1.trans hK2).trans hK4).blk hx (by simp)
  have hM3 := HM.out.keep0 (hK3.trans hK4)
  have hKF := (hK3.trans hK4).mono (T := F) (by simp)
  clear hBR hK1 hK2 hK3 hK4 hx hK hg
  go_wp2_with fail
  go_loopw [9] (fun i wr => ∃ j : Nat, i = .int .i64 j ∧ p ≤ j ∧ j ≤ z ∧ RpAt wr mb L F ws (sevens (kindL kd) p (j - p)) (bigL kd) kd ∧ Keep F w wr ∧ wr.heap[bx]? = some (.cells #[.int .i64 0, .int .i64 0] 73 (0, 0))) (fun i _ => z - (intOf i).toNat)
  case atStart => exact ⟨p, rfl, by omega, by omega, by rw [Nat.sub_self, sevens_zero]; exact hM3, hKF, hx1⟩
  case round =>
    obtain ⟨j, rfl, hj1, hj2, hR, hK, hxr⟩ := hrel
    obtain ⟨w4, rfl⟩ : ∃ w4, w4 = wr := ⟨_, rfl⟩
    clear hM3 hKF hx1
    by_cases hlt : j < z
    · have c1 := hR.c1
      rw [HN.out] at c1
      have ck := hR.ck (p := j) (by rw [HN.out]; omega)
      have fk := hR.rowK.free j
      have hR2 := hR.setK j 7
      have e : (sevens (kindL kd) p (j - p)).set j 7 = sevens (kindL kd) p (j + 1 - p) := by
        have := sevens_step (kindL kd) p (j - p) (by rw [kindL_length, HN.out]; omega)
        rw [show p + (j - p) = j by omega] at this
        rw [this, show j - p + 1 = j + 1 - p by omega]
      rw [e] at hR2
      have HR2 := (show Hid (RpAt (w4.setCell ⟨L.gk, j, none⟩ (.int .i64 7)) mb L F ws (sevens (kindL kd) p (j + 1 - p)) (bigL kd) kd) from hR2)
      have HK2 := (show Hid (Keep F w (w4.setCell ⟨L.gk, j, none⟩ (.int .i64 7))) from hK.trans (Keep.setCell _ _ f.2.2.1))
      have HX2 := (show Hid ((w4.setCell ⟨L.gk, j, none⟩ (.int .i64 7)).heap[bx]? = some (.cells #[.int .i64 0, .int .i64 0] 73 (0, 0))) from (Keep.setCell (S := F) w4 _ f.2.2.1).blk hxr hbF)
      clear hR hR2 e hK hxr
      go_wp2
      go_roundw
      case rel => exact ⟨j + 1, by go_num, by omega, by omega, HR2.out, HK2.out, HX2.out⟩
      case measure => simp [intOf]; omega
    · obtain rfl : j = z := by omega
      rw [show j - p = k by omega] at hR
      have c1 := hR.c1
      rw [HN.out] at c1
      have ck := hR.ck (p := p) (by rw [HN.out]; omega)
      have fk := hR.rowK.free p
      have hR5 := hR.setK p 6
      rw [HKD.out] at hR5
      have c2 := hR5.c2
      rw [HN.out] at c2
      have cm := hR5.cm (p := p) (by rw [HN.out]; omega)
      have fm := hR5.rowM.free p
      have hR6 := (hR5.setM p k).other (putParts_length kd p k) HSO.out
      rw [← HBG.out] at hR6
      have hK6 := (hK.trans (Keep.setCell w4 (.int .i64 6) (a := ⟨L.gk, p, none⟩) f.2.2.1)).trans (Keep.setCell _ (.int .i64 (k : Int)) (a := ⟨L.gm, p, none⟩) f.2.2.2.1)
      have hx6 := (Keep.setCell (S := F) _ (.int .i64 (k : Int)) (a := ⟨L.gm, p, none⟩) f.2.2.2.1).blk ((Keep.setCell (S := F) w4 (.int .i64 6) (a := ⟨L.gk, p, none⟩) f.2.2.1).blk hxr hbF) hbF
      have HR6 := (show Hid (RpAt ((w4.setCell ⟨L.gk, p, none⟩ (.int .i64 6)).setCell ⟨L.gm, p, none⟩ (.int .i64 (k : Int))) mb L F ws (kindL (putParts kd p k)) (bigL (putParts kd p k)) (putParts kd p k)) from hR6)
      clear hR hR5 hR6 hK hxr
      go_wp2_with fail
      generalize (w4.setCell ⟨L.gk, p, none⟩ (.int .i64 6)).setCell ⟨L.gm, p, none⟩ (.int .i64 (k : Int)) = w6 at *
      refine (rfill_any mb y b L F ws _ _ _ w6 HR6.out (by rw [putParts_length, HN.out]; omega) (by rw [putParts_length, HN.out]; omega)).mono ?_
      rintro e w7 ⟨rfl, hR7, hK7⟩
      have hK8 := hK6.trans (hK7.mono (fun q e => by simp at e; subst e; exact f.2.1))
      have hx7 := hK7.blk hx6 (by simp; intro e; exact hbF (e ▸ f.2.1))
      have f0 : w7.frozen? ⟨bx, 0, none⟩ = false := by simp [World.frozen?, hx7]
      have f1 : w7.frozen? ⟨bx, 1, none⟩ = false := by simp [World.frozen?, hx7]
      have g0 : w7.cell? ⟨bx, 0, none⟩ = some (.int .i64 0) := by simp [World.cell?, hx7]
      have g1 : w7.cell? ⟨bx, 1, none⟩ = some (.int .i64 0) := by simp [World.cell?, hx7]
      have HKZ := (show Hid (∀ a b, Keep F w ((w7.setCell ⟨bx, 0, none⟩ a).setCell ⟨bx, 1, none⟩ b)) from fun a b => Keep.two hK8 (by omega))
      have HRZ := (show Hid (∀ u v, RpAt ((w7.setCell ⟨bx, 0, none⟩ u).setCell ⟨bx, 1, none⟩ v) mb L F (fill0 ws y b) (kindL (putParts kd p k)) (bigL (putParts kd p k)) (putParts kd p k)) from fun u v => hR7.keep (S := [bx]) ((Keep.setCell w7 u (a := ⟨bx, 0, none⟩) (by simp)).trans (Keep.setCell _ v (a := ⟨bx, 1, none⟩) (by simp))) (fun q hq e => by simp at e; subst e; exact hbF hq))
      clear hR7 hK7 hK8 HR6 hx6 hK6
      go_wp2
      refine bodyPost_ret (results_cell_row rfl _ _ bx 73 #[.int .i64 y, .int .i64 0] (0, 0) _ rfl (two_set hx7) Tryz.underlying73 rfl (by kernel_rfl)) rfl ?_
      exact ⟨rfl, HRZ.out _ _, HKZ.out _ _⟩

end Go.Proofs.YtgpidokklhjfdaaGreat

/-
  Alloc of the document's own space: blocks of a class.
-/
namespace Go.Proofs.YtgpidokklhjfdaaGreat
open Go.RowKit

theorem kindSame {kd : List PK} {p c : Nat} {xs ys : List Bool} (hk : kat kd p = .small c xs) : kindL (kd.set p (.small c ys)) = kindL kd := by
  have hp := kat_lt kd p (by rw [hk]; simp)
  refine eq_of_getD (by simp [kindL]) (fun t => ?_)
  rw [kindL_get, kindL_get, kat_set _ _ _ _ hp]
  split
  · rename_i e; subst e; rw [hk]; rfl
  · rfl
theorem bigSame {kd : List PK} {p c : Nat} {xs ys : List Bool} (hk : kat kd p = .small c xs) : bigL (kd.set p (.small c ys)) = bigL kd := by
  have hp := kat_lt kd p (by rw [hk]; simp)
  refine eq_of_getD (by simp [bigL]) (fun t => ?_)
  rw [bigL_get, bigL_get, kat_set _ _ _ _ hp]
  split
  · rename_i e; subst e; rw [hk]; rfl
  · rfl
/-- Page j of the document's own, as one looks for room of class c. -/
theorem kind_look {kd : List PK} (c j : Nat) (hc : c < 5) : ((kat kd j).kind ≠ (c : Int) + 1 ∧ (kat kd j).has c = false) ∨ ∃ xs, kat kd j = .small c xs ∧ (kat kd j).has c = !allB xs := by
  cases e : kat kd j with
  | small d xs =>
    by_cases h : d = c
    · subst h; exact .inr ⟨xs, rfl, by simp [PK.has]⟩
    · exact .inl ⟨by show (d : Int) + 1 ≠ (c : Int) + 1; omega, by simp [PK.has, h]⟩
  | part j k =>
    cases j with
    | zero => exact .inl ⟨by show (6 : Int) ≠ (c : Int) + 1; omega, rfl⟩
    | succ j => exact .inl ⟨by show (7 : Int) ≠ (c : Int) + 1; omega, rfl⟩
  | zero => exact .inl ⟨by show (-1 : Int) ≠ (c : Int) + 1; omega, rfl⟩
  | free => exact .inl ⟨by show (0 : Int) ≠ (c : Int) + 1; omega, rfl⟩

set_option maxRecDepth 100000 in
set_option maxHeartbeats 8000000 in
theorem ralloc_old (mb c p i : Nat) (n : Int) (xs : List Bool) (L : RLay) (F : List Nat) (ws : List Int) (kd : List PK) (w : World) (h : RpAt w mb L F ws (kindL kd) (bigL kd) kd) (hw : WF kd) (hcl : classI n = c) (hc : c < 5) (hp : nextR (hasL c kd) 0 true = p) (hk : kat kd p = .small c xs) (hi : nextR xs 0 false = i) (hil : i < xs.length) :
    Calls Tryz.prog 62 #[.pointer (some ⟨mb, 0, none⟩), .int .i64 n] w fun e w' => e = .returned (.agg #[.int .i64 ((64 * p + i * sz c : Nat) : Int), .int .i64 0]) ∧ RpAt w' mb L F (fill0 ws (64 * p + i * sz c) (sz c)) (kindL (kd.set p (.small c (xs.set i true)))) (bigL (kd.set p (.small c (xs.set i true)))) (kd.set p (.small c (xs.set i true))) ∧ Keep F w w' := by
  obtain ⟨hc5, hxl, _⟩ := hw.small p c xs hk
  obtain ⟨z1, z2, z3, z4, z5, z6, z7⟩ := sz_facts c hc
  have hpl := kat_lt kd p (by rw [hk]; simp)
  have hpn : ∀ t, t < p → (kat kd t).has c = false := by
    rcases nextR_spec (hasL c kd) true _ 0 rfl with ⟨e, _⟩ | ⟨j, e, _, _, _, e4⟩
    · rw [hp] at e; omega
    · obtain rfl : p = j := by rw [hp] at e; omega
      intro t ht
      have := e4 t (by omega) ht
      rw [hasL_get] at this
      simpa using this
  have HPN := (show Hid (∀ t, t < p → (kat kd t).has c = false) from hpn)
  have hbl : blockI n = ((sz c : Nat) : Int) := by rw [block_class n c hcl]; exact z1
  have hle : 64 * p + i * sz c + sz c ≤ 64 * kd.length := by
    have : i * sz c + sz c ≤ 64 := by
      have h1 : (i + 1) * sz c ≤ roomOf c * sz c := Nat.mul_le_mul_right _ (by omega)
      rw [Nat.add_mul, Nat.one_mul, Nat.mul_comm (roomOf c), z2] at h1
      exact h1
    omega
  obtain ⟨s, hs⟩ : ∃ s, sz c = s := ⟨_, rfl⟩
  rw [hs] at hbl z3 z4 hle ⊢
  have HB := (show Hid (blockI n = (s : Nat)) from hbl)
  have HC := (show Hid (classI n = c) from hcl)
  have hbn : decide ((s : Int) = 0) = false := by rw [decide_eq_false_iff_not]; omega
  have hc0 : decide ((c : Int) < 0) = false := by rw [decide_eq_false_iff_not]; omega
  have HM := (show Hid (RpAt w mb L F ws (kindL kd) (bigL kd) kd) from h)
  have HKK := (show Hid (kat kd p = .small c xs) from hk)
  have HPL := (show Hid (p < kd.length) from hpl)
  have HI := (show Hid (nextR xs (0 : Int).toNat false = i) from hi)
  have HIL := (show Hid (i < xs.length) from hil)
  have f := h.f
  have ffp := h.fp p c xs hk
  have hFlt := h.lt
  have hx := heap_alloc_new w (.cells #[.int .i64 0, .int .i64 0] 73)
  have hK := Keep.alloc [] w (.cells #[.int .i64 0, .int .i64 0] 73)
  obtain ⟨bx, hbx⟩ : ∃ bx, w.heap.size = bx := ⟨_, rfl⟩
  rw [hbx] at hx
  have hbF : bx ∉ F := fun e => by have := hFlt _ e; omega
  obtain ⟨nn, hnn⟩ : ∃ nn, kd.length = nn := ⟨_, rfl⟩
  have HN := (show Hid (kd.length = nn) from hnn)
  have hn2 : nn ≤ 256 := by rw [← hnn]; exact hw.len2
  have hpnn : p < nn := by omega
  have HLE := (show Hid (64 * p + i * s + s ≤ 64 * kd.length) from hle)
  obtain ⟨xl, hxl2⟩ : ∃ xl, xs.length = xl := ⟨_, rfl⟩
  have HXL := (show Hid (xs.length = xl) from hxl2)
  have hxb : xl ≤ 32 := by omega
  have hixl : i < xl := by omega
  have HLX := (show Hid (∀ t ys, kat kd t = .small c ys → ys.length ≤ 32) from fun t ys e => by
    obtain ⟨_, hl, _⟩ := hw.small t c ys e
    have := (sz_facts c hc).2.2.2.2.2.1
    show ys.length ≤ 32
    omega)
  obtain ⟨y, hy⟩ : ∃ y : Nat, i * s = y := ⟨_, rfl⟩
  have hyb : y ≤ 32 * 32 := by rw [← hy]; exact Nat.mul_le_mul (by omega) z4
  have hyi : (i : Int) * (s : Int) = y := by rw [← hy]; exact (Int.natCast_mul i s).symm
  have hyw : IntKind.i64.wrap ((i : Int) * s) = y := by rw [hyi]; exact IntWalk.i64_in _ (by omega)
  rw [hy] at HLE ⊢
  obtain ⟨u, hu⟩ : ∃ u : Nat, 64 * p + y = u := ⟨_, rfl⟩
  have hui : (p : Int) * 64 + y = u := by omega
  have hub : u ≤ 20000 := by omega
  rw [hu] at HLE ⊢
  have hi0 : decide ((i : Int) < 0) = false := by rw [decide_eq_false_iff_not]; omega
  have hpe : decide ((p : Int) = (nn : Int)) = false := by rw [decide_eq_false_iff_not]; omega
  clear h hw hcl hp hk hi hil hpn hbl hle hs hnn hxl hxl2 hy hu hpl z1 z2 z5 z6 z7 hc5
  go_enter Tryz.func62, Tryz.ntmps62
  go_wp2_with fail
  refine (rblock_any _ _).mono ?_
  rw [HB.out]
  rintro e w1 ⟨rfl, hK1⟩
  go_wp2_with fail
  refine (rclass_any _ _).mono ?_
  rw [HC.out]
  rintro e w2 ⟨rfl, hK2⟩
  have hK3 := (hK.trans hK1).trans hK2
  have hM2 := HM.out.keep0 hK3
  have hx2 := (hK1.trans hK2).blk hx (by simp)
  have c1 := hM2.c1
  have c3 := hM2.c3
  rw [HN.out] at c1 c3
  have HM2 := (show Hid (RpAt w2 mb L F ws (kindL kd) (bigL kd) kd) from hM2)
  clear hM2 hK1 hK2 hK hx
  go_wp2_with fail
  go_loop [10] (fun v => ∃ j : Nat, v = .int .i64 j ∧ j ≤ p) (fun v => nn - (intOf v).toNat)
  case atStart => exact ⟨0, rfl, by omega⟩
  case round =>
    obtain ⟨j, rfl, hj⟩ := hrel
    have ck := HM2.out.ck (p := j) (by rw [HN.out]; omega)
    rw [kindL_get] at ck
    have hjn : decide ((j : Int) < (nn : Int)) = true := by rw [decide_eq_true_iff]; omega
    by_cases hlt : j < p
    · have HF := HPN.out j hlt
      rcases kind_look (kd := kd) c j hc with ⟨hk1, _⟩ | ⟨ys, hk1, hh⟩
      · generalize (kat kd j).kind = kv at *
        have hkd : decide (kv = (c : Int) + 1) = false := by rw [decide_eq_false_iff_not]; exact hk1
        clear HF
        go_wp2_with fail
        go_round
        case rel => exact ⟨j + 1, by go_num, by omega⟩
        case measure => simp [intOf]; omega
      · rw [hk1] at ck
        have hck : w2.cell? ⟨L.gk, j, none⟩ = some (.int .i64 ((c : Int) + 1)) := ck
        have ct : w2.cell? ⟨L.gt, j, none⟩ = some (.slice (some ⟨L.T j, 0, none⟩) ys.length ys.length) := by
          have := HM2.out.ct (p := j) (by rw [HN.out]; omega)
          rw [hk1] at this; exact this
        have hBR := HM2.out.page j c ys hk1
        have HYA := (show Hid (nextR ys (0 : Int).toNat false = -1) from by
          have ha := bool_no HF hh
          unfold allB at ha
          rcases nextR_spec ys false _ 0 rfl with ⟨e, _⟩ | ⟨l, e, _⟩
          · exact e
          · rw [e] at ha; have := of_decide_eq_true ha; omega)
        have hyl := HLX.out j ys hk1
        clear HF hh ck hk1
        go_wp2_with (first | (go_at_call 95; refine (rnext_any (L.T j) ys.length ys.length 0 false ys w2 hBR rfl (by omega) (by omega)).mono ?_; rw [HYA.out]; rintro e w' ⟨rfl, rfl⟩))
        go_round
        case rel => exact ⟨j + 1, by go_num, by omega⟩
        case measure => simp [intOf]; omega
    · obtain rfl : j = p := by omega
      have hck : w2.cell? ⟨L.gk, j, none⟩ = some (.int .i64 ((c : Int) + 1)) := by rw [HKK.out] at ck; exact ck
      have ct : w2.cell? ⟨L.gt, j, none⟩ = some (.slice (some ⟨L.T j, 0, none⟩) xl xl) := by
        have := HM2.out.ct (p := j) HPL.out
        rw [HKK.out] at this
        rw [← HXL.out]; exact this
      have hBR := HM2.out.page j c xs HKK.out
      have cx := hBR.cell HIL.out
      have fx := hBR.free i
      have hS4 := HM2.out.inner (i := i) (b := true) HKK.out
      have HS4 := (show Hid (RpAt (w2.setCell ⟨L.T j, i, none⟩ (.bool true)) mb L F ws (kindL kd) (bigL kd) (kd.set j (.small c (xs.set i true)))) from hS4)
      have hK4 := (hK3.mono (T := F) (by simp)).trans (Keep.setCell w2 (.bool true) (a := ⟨L.T j, i, none⟩) ffp)
      have hx4 := (Keep.setCell (S := F) w2 (.bool true) (a := ⟨L.T j, i, none⟩) ffp).blk hx2 hbF
      clear ck hS4
      go_wp2_with (first | (go_at_call 95; refine (rnext_any (L.T j) xl xl 0 false xs w2 hBR HXL.out (by omega) (by omega)).mono ?_; rw [HI.out]; rintro e w' ⟨rfl, rfl⟩))
      generalize w2.setCell ⟨L.T j, i, none⟩ (.bool true) = w6 at *
      refine (rfill_any mb u s L F ws _ _ _ w6 HS4.out (by rw [List.length_set]; exact HLE.out) (by rw [List.length_set, HN.out]; exact hn2)).mono ?_
      rintro e w7 ⟨rfl, hR7, hK7⟩
      have hK8 := hK4.trans (hK7.mono (fun q e => by simp at e; subst e; exact f.2.1))
      have hx7 := hK7.blk hx4 (by simp; intro e; exact hbF (e ▸ f.2.1))
      have f0 : w7.frozen? ⟨bx, 0, none⟩ = false := by simp [World.frozen?, hx7]
      have f1 : w7.frozen? ⟨bx, 1, none⟩ = false := by simp [World.frozen?, hx7]
      have g0 : w7.cell? ⟨bx, 0, none⟩ = some (.int .i64 0) := by simp [World.cell?, hx7]
      have g1 : w7.cell? ⟨bx, 1, none⟩ = some (.int .i64 0) := by simp [World.cell?, hx7]
      have HKZ := (show Hid (∀ a b, Keep F w ((w7.setCell ⟨bx, 0, none⟩ a).setCell ⟨bx, 1, none⟩ b)) from fun a b => Keep.two hK8 (by omega))
      have HRZ := (show Hid (∀ p q, RpAt ((w7.setCell ⟨bx, 0, none⟩ p).setCell ⟨bx, 1, none⟩ q) mb L F (fill0 ws u s) (kindL kd) (bigL kd) (kd.set j (.small c (xs.set i true)))) from fun p q => hR7.keep (S := [bx]) ((Keep.setCell w7 p (a := ⟨bx, 0, none⟩) (by simp)).trans (Keep.setCell _ q (a := ⟨bx, 1, none⟩) (by simp))) (fun k hq e => by simp at e; subst e; exact hbF hq))
      have HKS := (show Hid (kindL (kd.set j (.small c (xs.set i true))) = kindL kd ∧ bigL (kd.set j (.small c (xs.set i true))) = bigL kd) from ⟨kindSame HKK.out, bigSame HKK.out⟩)
      clear hR7 hK7 hK8 HS4 hx4 hK4
      go_wp2
      refine bodyPost_ret (results_cell_row rfl _ _ bx 73 #[.int .i64 u, .int .i64 0] (0, 0) _ rfl (two_set hx7) Tryz.underlying73 rfl (by kernel_rfl)) rfl ?_
      refine ⟨rfl, ?_, HKZ.out _ _⟩
      rw [HKS.out.1, HKS.out.2]
      exact HRZ.out _ _

end Go.Proofs.YtgpidokklhjfdaaGreat

/-
  Alloc of the document's own space: a class whose pages have no room.
-/
namespace Go.Proofs.YtgpidokklhjfdaaGreat
open Go.RowKit

set_option maxRecDepth 100000 in
set_option maxHeartbeats 8000000 in
theorem ralloc_full (mb c : Nat) (n : Int) (L : RLay) (F : List Nat) (ws : List Int) (kd : List PK) (w : World) (h : RpAt w mb L F ws (kindL kd) (bigL kd) kd) (hw : WF kd) (hcl : classI n = c) (hc : c < 5) (hp : nextR (hasL c kd) 0 true = -1) (hr : runR (takenL kd) 0 1 = -1) :
    Calls Tryz.prog 62 #[.pointer (some ⟨mb, 0, none⟩), .int .i64 n] w fun e w' => e = .returned (.agg #[.int .i64 0, .int .i64 3]) ∧ Keep [] w w' := by
  obtain ⟨z1, z2, z3, z4, z5, z6, z7⟩ := sz_facts c hc
  have HPN := (show Hid (∀ t, (kat kd t).has c = false) from none_has hp)
  have HR := (show Hid (runR (takenL kd) 0 1 = -1) from hr)
  have hbl : blockI n = ((sz c : Nat) : Int) := by rw [block_class n c hcl]; exact z1
  obtain ⟨s, hs⟩ : ∃ s, sz c = s := ⟨_, rfl⟩
  rw [hs] at hbl z3 z4
  have HB := (show Hid (blockI n = (s : Nat)) from hbl)
  have HC := (show Hid (classI n = c) from hcl)
  have hbn : decide ((s : Int) = 0) = false := by rw [decide_eq_false_iff_not]; omega
  have hc0 : decide ((c : Int) < 0) = false := by rw [decide_eq_false_iff_not]; omega
  have HM := (show Hid (RpAt w mb L F ws (kindL kd) (bigL kd) kd) from h)
  have HW := (show Hid (WF kd) from hw)
  have hx := heap_alloc_new w (.cells #[.int .i64 0, .int .i64 0] 73)
  have hK := Keep.alloc [] w (.cells #[.int .i64 0, .int .i64 0] 73)
  obtain ⟨bx, hbx⟩ : ∃ bx, w.heap.size = bx := ⟨_, rfl⟩
  rw [hbx] at hx
  obtain ⟨nn, hnn⟩ : ∃ nn, kd.length = nn := ⟨_, rfl⟩
  have HN := (show Hid (kd.length = nn) from hnn)
  have hn2 : nn ≤ 256 := by rw [← hnn]; exact hw.len2
  have HLX := (show Hid (∀ t ys, kat kd t = .small c ys → ys.length ≤ 32) from fun t ys e => by
    obtain ⟨_, hl, _⟩ := hw.small t c ys e
    have := (sz_facts c hc).2.2.2.2.2.1
    show ys.length ≤ 32
    omega)
  clear h hw hcl hp hr hbl hs hnn z1 z2 z5 z6 z7
  go_enter Tryz.func62, Tryz.ntmps62
  go_wp2_with fail
  refine (rblock_any _ _).mono ?_
  rw [HB.out]
  rintro e w1 ⟨rfl, hK1⟩
  go_wp2_with fail
  refine (rclass_any _ _).mono ?_
  rw [HC.out]
  rintro e w2 ⟨rfl, hK2⟩
  have hK3 := (hK.trans hK1).trans hK2
  have hM2 := HM.out.keep0 hK3
  have hx2 := (hK1.trans hK2).blk hx (by simp)
  have c1 := hM2.c1
  have c3 := hM2.c3
  rw [HN.out] at c1 c3
  have HM2 := (show Hid (RpAt w2 mb L F ws (kindL kd) (bigL kd) kd) from hM2)
  clear hM2 hK1 hK2 hK hx
  go_wp2_with fail
  go_loop [10] (fun v => ∃ j : Nat, v = .int .i64 j ∧ j ≤ nn) (fun v => nn - (intOf v).toNat)
  case atStart => exact ⟨0, rfl, by omega⟩
  case round =>
    obtain ⟨j, rfl, hj⟩ := hrel
    by_cases hlt : j < nn
    · have ck := HM2.out.ck (p := j) (by rw [HN.out]; omega)
      rw [kindL_get] at ck
      have hjn : decide ((j : Int) < (nn : Int)) = true := by rw [decide_eq_true_iff]; omega
      have HF := HPN.out j
      rcases kind_look (kd := kd) c j hc with ⟨hk1, _⟩ | ⟨ys, hk1, hh⟩
      · generalize (kat kd j).kind = kv at *
        have hkd : decide (kv = (c : Int) + 1) = false := by rw [decide_eq_false_iff_not]; exact hk1
        clear HF
        go_wp2_with fail
        go_round
        case rel => exact ⟨j + 1, by go_num, by omega⟩
        case measure => simp [intOf]; omega
      · rw [hk1] at ck
        have hck : w2.cell? ⟨L.gk, j, none⟩ = some (.int .i64 ((c : Int) + 1)) := ck
        have ct : w2.cell? ⟨L.gt, j, none⟩ = some (.slice (some ⟨L.T j, 0, none⟩) ys.length ys.length) := by
          have := HM2.out.ct (p := j) (by rw [HN.out]; omega)
          rw [hk1] at this; exact this
        have hBR := HM2.out.page j c ys hk1
        have HYA := (show Hid (nextR ys (0 : Int).toNat false = -1) from by
          have ha := bool_no HF hh
          unfold allB at ha
          rcases nextR_spec ys false _ 0 rfl with ⟨e, _⟩ | ⟨l, e, _⟩
          · exact e
          · rw [e] at ha; have := of_decide_eq_true ha; omega)
        have hyl := HLX.out j ys hk1
        clear HF hh ck hk1
        go_wp2_with (first | (go_at_call 95; refine (rnext_any (L.T j) ys.length ys.length 0 false ys w2 hBR rfl (by omega) (by omega)).mono ?_; rw [HYA.out]; rintro e w' ⟨rfl, rfl⟩))
        go_round
        case rel => exact ⟨j + 1, by go_num, by omega⟩
        case measure => simp [intOf]; omega
    · obtain rfl : j = nn := by omega
      go_wp2_with fail
      refine (rpages_ok mb L F ws (bigL kd) kd w2 HM2.out HW.out.len1 HW.out.len2).mono ?_
      rw [HN.out]
      rintro e w3 ⟨g, rfl, hBR, hK4, hg⟩
      go_wp2_with fail
      refine (run_dn g j j 1 (takenL kd) w3 hBR (by rw [takenL_length, HN.out]) (by omega) (by omega)).mono ?_
      rw [HR.out]
      rintro e w' ⟨rfl, rfl⟩
      have hx1 := hK4.blk hx2 (by simp)
      have f0 : w3.frozen? ⟨bx, 0, none⟩ = false := by simp [World.frozen?, hx1]
      have f1 : w3.frozen? ⟨bx, 1, none⟩ = false := by simp [World.frozen?, hx1]
      have g0 : w3.cell? ⟨bx, 0, none⟩ = some (.int .i64 0) := by simp [World.cell?, hx1]
      have g1 : w3.cell? ⟨bx, 1, none⟩ = some (.int .i64 0) := by simp [World.cell?, hx1]
      have HK := (show Hid (∀ a b, Keep [] w ((w3.setCell ⟨bx, 0, none⟩ a).setCell ⟨bx, 1, none⟩ b)) from fun a b => Keep.two (hK3.trans hK4) (by omega))
      go_wp2
      refine bodyPost_ret (results_cell_row rfl _ _ bx 73 #[.int .i64 0, .int .i64 3] (0, 0) _ rfl (two_set hx1) Tryz.underlying73 rfl (by kernel_rfl)) rfl ?_
      exact ⟨rfl, HK.out _ _⟩

end Go.Proofs.YtgpidokklhjfdaaGreat

/-
  Alloc of the document's own space: a new page of a class; and all of it.
-/
namespace Go.Proofs.YtgpidokklhjfdaaGreat
open Go.RowKit

set_option maxRecDepth 100000 in
set_option maxHeartbeats 8000000 in
theorem ralloc_new0 (mb p : Nat) (n : Int) (L : RLay) (F : List Nat) (ws : List Int) (kd : List PK) (w : World) (h : RpAt w mb L F ws (kindL kd) (bigL kd) kd) (hw : WF kd) (hcl : classI n = 0) (hp : nextR (hasL 0 kd) 0 true = -1) (hr : runR (takenL kd) 0 1 = p) :
    Calls Tryz.prog 62 #[.pointer (some ⟨mb, 0, none⟩), .int .i64 n] w fun e w' => ∃ L' F', e = .returned (.agg #[.int .i64 ((64 * p : Nat) : Int), .int .i64 0]) ∧ RpAt w' mb L' F' (fill0 ws (64 * p) 2) (kindL (kd.set p (.small 0 ((offs 32).set 0 true)))) (bigL (kd.set p (.small 0 ((offs 32).set 0 true)))) (kd.set p (.small 0 ((offs 32).set 0 true))) ∧ Keep F w w' ∧ Grows w F F' := by
  have hc : (0 : Nat) < 5 := by omega
  have HPN := (show Hid (∀ t, (kat kd t).has 0 = false) from none_has hp)
  have HR := (show Hid (runR (takenL kd) 0 1 = p) from hr)
  have hbl : blockI n = ((2 : Nat) : Int) := by rw [block_class n 0 hcl]; rfl
  have HB := (show Hid (blockI n = 2) from hbl)
  have HC := (show Hid (classI n = 0) from hcl)
  have hcr := run_clear (by omega) hr
  obtain ⟨hpl, hfree⟩ := clear_free hcr
  have HFP := (show Hid (kat kd p = .free) from hfree p (by omega) (by omega))
  have HPL := (show Hid (p < kd.length) from by show _ < _; omega)
  have hp0 : decide ((p : Int) < 0) = false := by rw [decide_eq_false_iff_not]; omega
  have f := h.f
  have hFlt := h.lt
  have HM := (show Hid (RpAt w mb L F ws (kindL kd) (bigL kd) kd) from h)
  have HW := (show Hid (WF kd) from hw)
  have hx := heap_alloc_new w (.cells #[.int .i64 0, .int .i64 0] 73)
  have hK := Keep.alloc [] w (.cells #[.int .i64 0, .int .i64 0] 73)
  obtain ⟨bx, hbx⟩ : ∃ bx, w.heap.size = bx := ⟨_, rfl⟩
  rw [hbx] at hx
  obtain ⟨nn, hnn⟩ : ∃ nn, kd.length = nn := ⟨_, rfl⟩
  have HN := (show Hid (kd.length = nn) from hnn)
  have hn2 : nn ≤ 256 := by rw [← hnn]; exact hw.len2
  have hpnn : p < nn := by omega
  have hbF : bx ∉ F := fun e => by have := hFlt _ e; omega
  obtain ⟨y, hy⟩ : ∃ y : Nat, 64 * p = y := ⟨_, rfl⟩
  have hyi : (p : Int) * 64 = y := by omega
  have hyb : y ≤ 20000 := by omega
  have HLE := (show Hid (y + 2 ≤ 64 * kd.length) from by show _ ≤ _; omega)
  rw [hy]
  have hmk : ∀ w, (Instr.makeSlice 137 (.int .i64 32) (.int .i64 32)).run Tryz.prog w = .ok (.slice (some ⟨w.heap.size, 0, none⟩) 32 32) (w.alloc (.cells (madeCells #[.bool false] 32) 4)) :=
    fun w => run_make_row' (P := Tryz.prog) 137 4 (.bool false) 1 Tryz.underlying137 Tryz.infoBool rfl .i64 .i64 32 (by omega) (by omega) w
  clear hcr hfree
  have HLX := (show Hid (∀ t ys, kat kd t = .small 0 ys → ys.length ≤ 32) from fun t ys e => by
    obtain ⟨_, hl, _⟩ := hw.small t 0 ys e
    have := (sz_facts 0 hc).2.2.2.2.2.1
    show ys.length ≤ 32
    omega)
  clear h hw hcl hp hr hbl hnn hy
  go_enter Tryz.func62, Tryz.ntmps62
  go_wp2_with fail
  refine (rblock_any _ _).mono ?_
  rw [HB.out]
  rintro e w1 ⟨rfl, hK1⟩
  go_wp2_with fail
  refine (rclass_any _ _).mono ?_
  rw [HC.out]
  rintro e w2 ⟨rfl, hK2⟩
  have hK3 := (hK.trans hK1).trans hK2
  have hM2 := HM.out.keep0 hK3
  have hx2 := (hK1.trans hK2).blk hx (by simp)
  have c1 := hM2.c1
  have c3 := hM2.c3
  rw [HN.out] at c1 c3
  have HM2 := (show Hid (RpAt w2 mb L F ws (kindL kd) (bigL kd) kd) from hM2)
  clear hM2 hK1 hK2 hK hx
  go_wp2_with fail
  go_loop [10] (fun v => ∃ j : Nat, v = .int .i64 j ∧ j ≤ nn) (fun v => nn - (intOf v).toNat)
  case atStart => exact ⟨0, rfl, by omega⟩
  case round =>
    obtain ⟨j, rfl, hj⟩ := hrel
    by_cases hlt : j < nn
    · have ck := HM2.out.ck (p := j) (by rw [HN.out]; omega)
      rw [kindL_get] at ck
      have hjn : decide ((j : Int) < (nn : Int)) = true := by rw [decide_eq_true_iff]; omega
      have HF := HPN.out j
      rcases kind_look (kd := kd) 0 j hc with ⟨hk1, _⟩ | ⟨ys, hk1, hh⟩
      · generalize (kat kd j).kind = kv at *
        have hkd : decide (kv = 0 + 1) = false := by rw [decide_eq_false_iff_not]; exact hk1
        have hkd2 : decide (kv = 1) = false := by rw [decide_eq_false_iff_not]; exact hk1
        have hkd3 : kv ≠ 1 := hk1
        clear HF
        go_wp2_with fail
        go_round
        case rel => exact ⟨j + 1, by go_num, by omega⟩
        case measure => simp [intOf]; omega
      · rw [hk1] at ck
        have hck : w2.cell? ⟨L.gk, j, none⟩ = some (.int .i64 1) := ck
        have ct : w2.cell? ⟨L.gt, j, none⟩ = some (.slice (some ⟨L.T j, 0, none⟩) ys.length ys.length) := by
          have := HM2.out.ct (p := j) (by rw [HN.out]; omega)
          rw [hk1] at this; exact this
        have hBR := HM2.out.page j 0 ys hk1
        have HYA := (show Hid (nextR ys (0 : Int).toNat false = -1) from by
          have ha := bool_no HF hh
          unfold allB at ha
          rcases nextR_spec ys false _ 0 rfl with ⟨e, _⟩ | ⟨l, e, _⟩
          · exact e
          · rw [e] at ha; have := of_decide_eq_true ha; omega)
        have hyl := HLX.out j ys hk1
        clear HF hh ck hk1
        go_wp2_with (first | (go_at_call 95; refine (rnext_any (L.T j) ys.length ys.length 0 false ys w2 hBR rfl (by omega) (by omega)).mono ?_; rw [HYA.out]; rintro e w' ⟨rfl, rfl⟩))
        go_round
        case rel => exact ⟨j + 1, by go_num, by omega⟩
        case measure => simp [intOf]; omega
    · obtain rfl : j = nn := by omega
      go_wp2_with fail
      refine (rpages_ok mb L F ws (bigL kd) kd w2 HM2.out HW.out.len1 HW.out.len2).mono ?_
      rw [HN.out]
      rintro e w3 ⟨g, rfl, hBR, hK4, hg⟩
      go_wp2_with fail
      refine (run_dn g j j 1 (takenL kd) w3 hBR (by rw [takenL_length, HN.out]) (by omega) (by omega)).mono ?_
      rw [HR.out]
      rintro e w' ⟨rfl, rfl⟩
      have hx1 := hK4.blk hx2 (by simp)
      have hM4 := HM2.out.keep0 hK4
      have c1 := hM4.c1
      have c3 := hM4.c3
      rw [HN.out] at c1 c3
      have ckp := hM4.ck (p := p) HPL.out
      have fkp := hM4.rowK.free p
      have hM5 := hM4.setK p 1
      have c3b := hM5.c3
      rw [HN.out] at c3b
      have ctp := hM5.ct (p := p) HPL.out
      have ftp := hM5.ft p
      have hx5 := (Keep.setCell (S := F) w3 (.int .i64 1) (a := ⟨L.gk, p, none⟩) f.2.2.1).blk hx1 hbF
      have hK5 := ((hK3.trans hK4).mono (T := F) (by simp)).trans (Keep.setCell w3 (.int .i64 1) (a := ⟨L.gk, p, none⟩) f.2.2.1)
      go_wp2_with fail
      generalize w3.setCell ⟨L.gk, p, none⟩ (.int .i64 1) = w5 at *
      have hM6 := hM5.keep0 (Keep.alloc [] w5 (.cells (madeCells #[.bool false] 32) 4))
      have c3d := hM6.c3
      rw [HN.out] at c3d
      have ctd := hM6.ct (p := p) HPL.out
      have ftd := hM6.ft p
      have hBR0 := BRow.made w5 4 32
      have hq5 : bx < w5.heap.size := lt_of_block hx5
      have hw5 : w.heap.size ≤ w5.heap.size := hK5.size
      have hqF : w5.heap.size ∉ F := fun e => by have := hM5.lt _ e; omega
      have hM7 := (hM6.gain (p := p) (c := 0) (q := w5.heap.size) (xs := offs 32) HPL.out hBR0 hqF).keep0 (Keep.drew [] _)
      rw [offs_length] at hM7
      have hK7 := ((hK5.trans ((Keep.alloc [] w5 (.cells (madeCells #[.bool false] 32) 4)).mono (by simp))).trans (Keep.setCell (S := F) _ (.slice (some ⟨w5.heap.size, 0, none⟩) 32 32) (a := ⟨L.gt, p, none⟩) f.2.2.2.2)).trans (Keep.drew F _)
      have hx7 := (Keep.drew F _).blk ((Keep.setCell (S := F) _ (.slice (some ⟨w5.heap.size, 0, none⟩) 32 32) (a := ⟨L.gt, p, none⟩) f.2.2.2.2).blk ((Keep.alloc F w5 (.cells (madeCells #[.bool false] 32) 4)).blk hx5 hbF) hbF) hbF
      go_region
      generalize ((w5.alloc (.cells (madeCells #[.bool false] 32) 4)).setCell ⟨L.gt, p, none⟩ (.slice (some ⟨w5.heap.size, 0, none⟩) 32 32)).drew = w8 at *
      obtain ⟨q, hq⟩ : ∃ q, w5.heap.size = q := ⟨_, rfl⟩
      rw [hq] at hM7 hqF hq5 hw5
      clear hM6 c3d ctd ftd hM5 c3b ctp ftp hM4 c1 c3 ckp fkp hBR0 hBR hK5 hx5 hq
      have hkat := kat_set_same kd p (.small 0 (offs 32)) HPL.out
      have c3e := hM7.c3
      rw [List.length_set, HN.out] at c3e
      have c3f : w8.cell? ⟨mb, 3, none⟩ = some (.slice (some ⟨L.gt, 0, none⟩) j j) := c3e
      have cte : w8.cell? ⟨L.gt, p, none⟩ = some (.slice (some ⟨q, 0, none⟩) 32 32) := by
        have := hM7.ct (p := p) (by rw [List.length_set]; exact HPL.out)
        rw [hkat] at this
        have e : (L.more p q).T p = q := if_pos rfl
        have e2 : (PK.small 0 (offs 32)).slot ((L.more p q).T p) = .slice (some ⟨q, 0, none⟩) 32 32 := by rw [e]; show Value.slice _ (offs 32).length (offs 32).length = _; rw [offs_length]
        rw [e2] at this
        exact this
      have hBRe : BRow w8 4 q (offs 32) := by
        have := hM7.page p 0 (offs 32) hkat
        have e : (L.more p q).T p = q := if_pos rfl
        rw [e] at this; exact this
      have cxe := hBRe.cell (i := 0) (by rw [offs_length]; omega)
      have fxe := hBRe.free 0
      have HNX := (show Hid (nextR (offs 32) (0 : Int).toNat false = 0) from nextR_is _ _ _ 0 (by omega) (by rw [offs_length]; omega) (offs_get _ _) (fun t a b => by omega))
      have hS9 := hM7.inner (i := 0) (b := true) hkat
      rw [List.set_set, show (L.more p q).T p = q from if_pos rfl] at hS9
      have HS9 := (show Hid (RpAt (w8.setCell ⟨q, 0, none⟩ (.bool true)) mb (L.more p q) (q :: F) ws ((kindL kd).set p 1) (bigL kd) (kd.set p (.small 0 ((offs 32).set 0 true)))) from hS9)
      have hbq : bx ∉ q :: F := fun e => by
        rcases List.mem_cons.1 e with e | e
        · omega
        · exact hbF e
      have hK9 := (hK7.mono (T := q :: F) (fun _ e => List.mem_cons_of_mem _ e)).trans (Keep.setCell w8 (.bool true) (a := ⟨q, 0, none⟩) (by simp))
      have hx9 := (Keep.setCell (S := q :: F) w8 (.bool true) (a := ⟨q, 0, none⟩) (by simp)).blk hx7 hbq
      clear hM7 hS9 c3e
      go_wp2_with (first | (go_at_call 95; refine (rnext_any q 32 32 0 false (offs 32) w8 hBRe (offs_length _) (by omega) (by omega)).mono ?_; rw [HNX.out]; rintro e w' ⟨rfl, rfl⟩))
      generalize w8.setCell ⟨q, 0, none⟩ (.bool true) = w10 at *
      refine (rfill_any mb y 2 (L.more p q) (q :: F) ws _ _ _ w10 HS9.out (by rw [List.length_set]; exact HLE.out) (by rw [List.length_set, HN.out]; exact hn2)).mono ?_
      rintro e w11 ⟨rfl, hR11, hK11⟩
      have hK12 := hK9.trans (hK11.mono (fun k e => by simp at e; subst e; exact List.mem_cons_of_mem _ f.2.1))
      have hx11 := hK11.blk hx9 (by simp; intro e; exact hbF (e ▸ f.2.1))
      have f0 : w11.frozen? ⟨bx, 0, none⟩ = false := by simp [World.frozen?, hx11]
      have f1 : w11.frozen? ⟨bx, 1, none⟩ = false := by simp [World.frozen?, hx11]
      have g0 : w11.cell? ⟨bx, 0, none⟩ = some (.int .i64 0) := by simp [World.cell?, hx11]
      have g1 : w11.cell? ⟨bx, 1, none⟩ = some (.int .i64 0) := by simp [World.cell?, hx11]
      have HKZ := (show Hid (∀ a b, Keep F w ((w11.setCell ⟨bx, 0, none⟩ a).setCell ⟨bx, 1, none⟩ b)) from fun a b => (Keep.two hK12 (by omega)).drop (fun k e hlt => by
        rcases List.mem_cons.1 e with e | e
        · omega
        · exact e))
      have HRZ := (show Hid (∀ u v, RpAt ((w11.setCell ⟨bx, 0, none⟩ u).setCell ⟨bx, 1, none⟩ v) mb (L.more p q) (q :: F) (fill0 ws y 2) ((kindL kd).set p 1) (bigL kd) (kd.set p (.small 0 ((offs 32).set 0 true)))) from fun u v => hR11.keep (S := [bx]) ((Keep.setCell w11 u (a := ⟨bx, 0, none⟩) (by simp)).trans (Keep.setCell _ v (a := ⟨bx, 1, none⟩) (by simp))) (fun k hq e => by simp at e; subst e; exact hbq hq))
      have HKS := (show Hid (kindL (kd.set p (.small 0 ((offs 32).set 0 true))) = (kindL kd).set p 1 ∧ bigL (kd.set p (.small 0 ((offs 32).set 0 true))) = bigL kd) from ⟨by simp [kindL, List.map_set, PK.kind], by
        refine eq_of_getD (by simp [bigL]) (fun t => ?_)
        rw [bigL_get, bigL_get, kat_set _ _ _ _ HPL.out]
        split
        · rename_i e; subst e; rw [HFP.out]; rfl
        · rfl⟩)
      have HGR := (show Hid (Grows w F (q :: F)) from fun k e => by
        rcases List.mem_cons.1 e with e | e
        · right; omega
        · exact .inl e)
      clear hR11 hK11 hK12 HS9 hx9 hK9
      go_wp2
      refine bodyPost_ret (results_cell_row rfl _ _ bx 73 #[.int .i64 y, .int .i64 0] (0, 0) _ rfl (two_set hx11) Tryz.underlying73 rfl (by kernel_rfl)) rfl ?_
      refine ⟨L.more p q, q :: F, rfl, ?_, HKZ.out _ _, HGR.out⟩
      rw [HKS.out.1, HKS.out.2]
      exact HRZ.out _ _

set_option maxRecDepth 100000 in
set_option maxHeartbeats 8000000 in
theorem ralloc_new1 (mb p : Nat) (n : Int) (L : RLay) (F : List Nat) (ws : List Int) (kd : List PK) (w : World) (h : RpAt w mb L F ws (kindL kd) (bigL kd) kd) (hw : WF kd) (hcl : classI n = 1) (hp : nextR (hasL 1 kd) 0 true = -1) (hr : runR (takenL kd) 0 1 = p) :
    Calls Tryz.prog 62 #[.pointer (some ⟨mb, 0, none⟩), .int .i64 n] w fun e w' => ∃ L' F', e = .returned (.agg #[.int .i64 ((64 * p : Nat) : Int), .int .i64 0]) ∧ RpAt w' mb L' F' (fill0 ws (64 * p) 4) (kindL (kd.set p (.small 1 ((offs 16).set 0 true)))) (bigL (kd.set p (.small 1 ((offs 16).set 0 true)))) (kd.set p (.small 1 ((offs 16).set 0 true))) ∧ Keep F w w' ∧ Grows w F F' := by
  have hc : (1 : Nat) < 5 := by omega
  have HPN := (show Hid (∀ t, (kat kd t).has 1 = false) from none_has hp)
  have HR := (show Hid (runR (takenL kd) 0 1 = p) from hr)
  have hbl : blockI n = ((4 : Nat) : Int) := by rw [block_class n 1 hcl]; rfl
  have HB := (show Hid (blockI n = 4) from hbl)
  have HC := (show Hid (classI n = 1) from hcl)
  have hcr := run_clear (by omega) hr
  obtain ⟨hpl, hfree⟩ := clear_free hcr
  have HFP := (show Hid (kat kd p = .free) from hfree p (by omega) (by omega))
  have HPL := (show Hid (p < kd.length) from by show _ < _; omega)
  have hp0 : decide ((p : Int) < 0) = false := by rw [decide_eq_false_iff_not]; omega
  have f := h.f
  have hFlt := h.lt
  have HM := (show Hid (RpAt w mb L F ws (kindL kd) (bigL kd) kd) from h)
  have HW := (show Hid (WF kd) from hw)
  have hx := heap_alloc_new w (.cells #[.int .i64 0, .int .i64 0] 73)
  have hK := Keep.alloc [] w (.cells #[.int .i64 0, .int .i64 0] 73)
  obtain ⟨bx, hbx⟩ : ∃ bx, w.heap.size = bx := ⟨_, rfl⟩
  rw [hbx] at hx
  obtain ⟨nn, hnn⟩ : ∃ nn, kd.length = nn := ⟨_, rfl⟩
  have HN := (show Hid (kd.length = nn) from hnn)
  have hn2 : nn ≤ 256 := by rw [← hnn]; exact hw.len2
  have hpnn : p < nn := by omega
  have hbF : bx ∉ F := fun e => by have := hFlt _ e; omega
  obtain ⟨y, hy⟩ : ∃ y : Nat, 64 * p = y := ⟨_, rfl⟩
  have hyi : (p : Int) * 64 = y := by omega
  have hyb : y ≤ 20000 := by omega
  have HLE := (show Hid (y + 4 ≤ 64 * kd.length) from by show _ ≤ _; omega)
  rw [hy]
  have hmk : ∀ w, (Instr.makeSlice 137 (.int .i64 16) (.int .i64 16)).run Tryz.prog w = .ok (.slice (some ⟨w.heap.size, 0, none⟩) 16 16) (w.alloc (.cells (madeCells #[.bool false] 16) 4)) :=
    fun w => run_make_row' (P := Tryz.prog) 137 4 (.bool false) 1 Tryz.underlying137 Tryz.infoBool rfl .i64 .i64 16 (by omega) (by omega) w
  clear hcr hfree
  have HLX := (show Hid (∀ t ys, kat kd t = .small 1 ys → ys.length ≤ 32) from fun t ys e => by
    obtain ⟨_, hl, _⟩ := hw.small t 1 ys e
    have := (sz_facts 1 hc).2.2.2.2.2.1
    show ys.length ≤ 32
    omega)
  clear h hw hcl hp hr hbl hnn hy
  go_enter Tryz.func62, Tryz.ntmps62
  go_wp2_with fail
  refine (rblock_any _ _).mono ?_
  rw [HB.out]
  rintro e w1 ⟨rfl, hK1⟩
  go_wp2_with fail
  refine (rclass_any _ _).mono ?_
  rw [HC.out]
  rintro e w2 ⟨rfl, hK2⟩
  have hK3 := (hK.trans hK1).trans hK2
  have hM2 := HM.out.keep0 hK3
  have hx2 := (hK1.trans hK2).blk hx (by simp)
  have c1 := hM2.c1
  have c3 := hM2.c3
  rw [HN.out] at c1 c3
  have HM2 := (show Hid (RpAt w2 mb L F ws (kindL kd) (bigL kd) kd) from hM2)
  clear hM2 hK1 hK2 hK hx
  go_wp2_with fail
  go_loop [10] (fun v => ∃ j : Nat, v = .int .i64 j ∧ j ≤ nn) (fun v => nn - (intOf v).toNat)
  case atStart => exact ⟨0, rfl, by omega⟩
  case round =>
    obtain ⟨j, rfl, hj⟩ := hrel
    by_cases hlt : j < nn
    · have ck := HM2.out.ck (p := j) (by rw [HN.out]; omega)
      rw [kindL_get] at ck
      have hjn : decide ((j : Int) < (nn : Int)) = true := by rw [decide_eq_true_iff]; omega
      have HF := HPN.out j
      rcases kind_look (kd := kd) 1 j hc with ⟨hk1, _⟩ | ⟨ys, hk1, hh⟩
      · generalize (kat kd j).kind = kv at *
        have hkd : decide (kv = 1 + 1) = false := by rw [decide_eq_false_iff_not]; exact hk1
        have hkd2 : decide (kv = 2) = false := by rw [decide_eq_false_iff_not]; exact hk1
        have hkd3 : kv ≠ 2 := hk1
        clear HF
        go_wp2_with fail
        go_round
        case rel => exact ⟨j + 1, by go_num, by omega⟩
        case measure => simp [intOf]; omega
      · rw [hk1] at ck
        have hck : w2.cell? ⟨L.gk, j, none⟩ = some (.int .i64 2) := ck
        have ct : w2.cell? ⟨L.gt, j, none⟩ = some (.slice (some ⟨L.T j, 0, none⟩) ys.length ys.length) := by
          have := HM2.out.ct (p := j) (by rw [HN.out]; omega)
          rw [hk1] at this; exact this
        have hBR := HM2.out.page j 1 ys hk1
        have HYA := (show Hid (nextR ys (0 : Int).toNat false = -1) from by
          have ha := bool_no HF hh
          unfold allB at ha
          rcases nextR_spec ys false _ 0 rfl with ⟨e, _⟩ | ⟨l, e, _⟩
          · exact e
          · rw [e] at ha; have := of_decide_eq_true ha; omega)
        have hyl := HLX.out j ys hk1
        clear HF hh ck hk1
        go_wp2_with (first | (go_at_call 95; refine (rnext_any (L.T j) ys.length ys.length 0 false ys w2 hBR rfl (by omega) (by omega)).mono ?_; rw [HYA.out]; rintro e w' ⟨rfl, rfl⟩))
        go_round
        case rel => exact ⟨j + 1, by go_num, by omega⟩
        case measure => simp [intOf]; omega
    · obtain rfl : j = nn := by omega
      go_wp2_with fail
      refine (rpages_ok mb L F ws (bigL kd) kd w2 HM2.out HW.out.len1 HW.out.len2).mono ?_
      rw [HN.out]
      rintro e w3 ⟨g, rfl, hBR, hK4, hg⟩
      go_wp2_with fail
      refine (run_dn g j j 1 (takenL kd) w3 hBR (by rw [takenL_length, HN.out]) (by omega) (by omega)).mono ?_
      rw [HR.out]
      rintro e w' ⟨rfl, rfl⟩
      have hx1 := hK4.blk hx2 (by simp)
      have hM4 := HM2.out.keep0 hK4
      have c1 := hM4.c1
      have c3 := hM4.c3
      rw [HN.out] at c1 c3
      have ckp := hM4.ck (p := p) HPL.out
      have fkp := hM4.rowK.free p
      have hM5 := hM4.setK p 2
      have c3b := hM5.c3
      rw [HN.out] at c3b
      have ctp := hM5.ct (p := p) HPL.out
      have ftp := hM5.ft p
      have hx5 := (Keep.setCell (S := F) w3 (.int .i64 2) (a := ⟨L.gk, p, none⟩) f.2.2.1).blk hx1 hbF
      have hK5 := ((hK3.trans hK4).mono (T := F) (by simp)).trans (Keep.setCell w3 (.int .i64 2) (a := ⟨L.gk, p, none⟩) f.2.2.1)
      go_wp2_with fail
      generalize w3.setCell ⟨L.gk, p, none⟩ (.int .i64 2) = w5 at *
      have hM6 := hM5.keep0 (Keep.alloc [] w5 (.cells (madeCells #[.bool false] 16) 4))
      have c3d := hM6.c3
      rw [HN.out] at c3d
      have ctd := hM6.ct (p := p) HPL.out
      have ftd := hM6.ft p
      have hBR0 := BRow.made w5 4 16
      have hq5 : bx < w5.heap.size := lt_of_block hx5
      have hw5 : w.heap.size ≤ w5.heap.size := hK5.size
      have hqF : w5.heap.size ∉ F := fun e => by have := hM5.lt _ e; omega
      have hM7 := (hM6.gain (p := p) (c := 1) (q := w5.heap.size) (xs := offs 16) HPL.out hBR0 hqF).keep0 (Keep.drew [] _)
      rw [offs_length] at hM7
      have hK7 := ((hK5.trans ((Keep.alloc [] w5 (.cells (madeCells #[.bool false] 16) 4)).mono (by simp))).trans (Keep.setCell (S := F) _ (.slice (some ⟨w5.heap.size, 0, none⟩) 16 16) (a := ⟨L.gt, p, none⟩) f.2.2.2.2)).trans (Keep.drew F _)
      have hx7 := (Keep.drew F _).blk ((Keep.setCell (S := F) _ (.slice (some ⟨w5.heap.size, 0, none⟩) 16 16) (a := ⟨L.gt, p, none⟩) f.2.2.2.2).blk ((Keep.alloc F w5 (.cells (madeCells #[.bool false] 16) 4)).blk hx5 hbF) hbF) hbF
      go_region
      generalize ((w5.alloc (.cells (madeCells #[.bool false] 16) 4)).setCell ⟨L.gt, p, none⟩ (.slice (some ⟨w5.heap.size, 0, none⟩) 16 16)).drew = w8 at *
      obtain ⟨q, hq⟩ : ∃ q, w5.heap.size = q := ⟨_, rfl⟩
      rw [hq] at hM7 hqF hq5 hw5
      clear hM6 c3d ctd ftd hM5 c3b ctp ftp hM4 c1 c3 ckp fkp hBR0 hBR hK5 hx5 hq
      have hkat := kat_set_same kd p (.small 1 (offs 16)) HPL.out
      have c3e := hM7.c3
      rw [List.length_set, HN.out] at c3e
      have c3f : w8.cell? ⟨mb, 3, none⟩ = some (.slice (some ⟨L.gt, 0, none⟩) j j) := c3e
      have cte : w8.cell? ⟨L.gt, p, none⟩ = some (.slice (some ⟨q, 0, none⟩) 16 16) := by
        have := hM7.ct (p := p) (by rw [List.length_set]; exact HPL.out)
        rw [hkat] at this
        have e : (L.more p q).T p = q := if_pos rfl
        have e2 : (PK.small 1 (offs 16)).slot ((L.more p q).T p) = .slice (some ⟨q, 0, none⟩) 16 16 := by rw [e]; show Value.slice _ (offs 16).length (offs 16).length = _; rw [offs_length]
        rw [e2] at this
        exact this
      have hBRe : BRow w8 4 q (offs 16) := by
        have := hM7.page p 1 (offs 16) hkat
        have e : (L.more p q).T p = q := if_pos rfl
        rw [e] at this; exact this
      have cxe := hBRe.cell (i := 0) (by rw [offs_length]; omega)
      have fxe := hBRe.free 0
      have HNX := (show Hid (nextR (offs 16) (0 : Int).toNat false = 0) from nextR_is _ _ _ 0 (by omega) (by rw [offs_length]; omega) (offs_get _ _) (fun t a b => by omega))
      have hS9 := hM7.inner (i := 0) (b := true) hkat
      rw [List.set_set, show (L.more p q).T p = q from if_pos rfl] at hS9
      have HS9 := (show Hid (RpAt (w8.setCell ⟨q, 0, none⟩ (.bool true)) mb (L.more p q) (q :: F) ws ((kindL kd).set p 2) (bigL kd) (kd.set p (.small 1 ((offs 16).set 0 true)))) from hS9)
      have hbq : bx ∉ q :: F := fun e => by
        rcases List.mem_cons.1 e with e | e
        · omega
        · exact hbF e
      have hK9 := (hK7.mono (T := q :: F) (fun _ e => List.mem_cons_of_mem _ e)).trans (Keep.setCell w8 (.bool true) (a := ⟨q, 0, none⟩) (by simp))
      have hx9 := (Keep.setCell (S := q :: F) w8 (.bool true) (a := ⟨q, 0, none⟩) (by simp)).blk hx7 hbq
      clear hM7 hS9 c3e
      go_wp2_with (first | (go_at_call 95; refine (rnext_any q 16 16 0 false (offs 16) w8 hBRe (offs_length _) (by omega) (by omega)).mono ?_; rw [HNX.out]; rintro e w' ⟨rfl, rfl⟩))
      generalize w8.setCell ⟨q, 0, none⟩ (.bool true) = w10 at *
      refine (rfill_any mb y 4 (L.more p q) (q :: F) ws _ _ _ w10 HS9.out (by rw [List.length_set]; exact HLE.out) (by rw [List.length_set, HN.out]; exact hn2)).mono ?_
      rintro e w11 ⟨rfl, hR11, hK11⟩
      have hK12 := hK9.trans (hK11.mono (fun k e => by simp at e; subst e; exact List.mem_cons_of_mem _ f.2.1))
      have hx11 := hK11.blk hx9 (by simp; intro e; exact hbF (e ▸ f.2.1))
      have f0 : w11.frozen? ⟨bx, 0, none⟩ = false := by simp [World.frozen?, hx11]
      have f1 : w11.frozen? ⟨bx, 1, none⟩ = false := by simp [World.frozen?, hx11]
      have g0 : w11.cell? ⟨bx, 0, none⟩ = some (.int .i64 0) := by simp [World.cell?, hx11]
      have g1 : w11.cell? ⟨bx, 1, none⟩ = some (.int .i64 0) := by simp [World.cell?, hx11]
      have HKZ := (show Hid (∀ a b, Keep F w ((w11.setCell ⟨bx, 0, none⟩ a).setCell ⟨bx, 1, none⟩ b)) from fun a b => (Keep.two hK12 (by omega)).drop (fun k e hlt => by
        rcases List.mem_cons.1 e with e | e
        · omega
        · exact e))
      have HRZ := (show Hid (∀ u v, RpAt ((w11.setCell ⟨bx, 0, none⟩ u).setCell ⟨bx, 1, none⟩ v) mb (L.more p q) (q :: F) (fill0 ws y 4) ((kindL kd).set p 2) (bigL kd) (kd.set p (.small 1 ((offs 16).set 0 true)))) from fun u v => hR11.keep (S := [bx]) ((Keep.setCell w11 u (a := ⟨bx, 0, none⟩) (by simp)).trans (Keep.setCell _ v (a := ⟨bx, 1, none⟩) (by simp))) (fun k hq e => by simp at e; subst e; exact hbq hq))
      have HKS := (show Hid (kindL (kd.set p (.small 1 ((offs 16).set 0 true))) = (kindL kd).set p 2 ∧ bigL (kd.set p (.small 1 ((offs 16).set 0 true))) = bigL kd) from ⟨by simp [kindL, List.map_set, PK.kind], by
        refine eq_of_getD (by simp [bigL]) (fun t => ?_)
        rw [bigL_get, bigL_get, kat_set _ _ _ _ HPL.out]
        split
        · rename_i e; subst e; rw [HFP.out]; rfl
        · rfl⟩)
      have HGR := (show Hid (Grows w F (q :: F)) from fun k e => by
        rcases List.mem_cons.1 e with e | e
        · right; omega
        · exact .inl e)
      clear hR11 hK11 hK12 HS9 hx9 hK9
      go_wp2
      refine bodyPost_ret (results_cell_row rfl _ _ bx 73 #[.int .i64 y, .int .i64 0] (0, 0) _ rfl (two_set hx11) Tryz.underlying73 rfl (by kernel_rfl)) rfl ?_
      refine ⟨L.more p q, q :: F, rfl, ?_, HKZ.out _ _, HGR.out⟩
      rw [HKS.out.1, HKS.out.2]
      exact HRZ.out _ _

set_option maxRecDepth 100000 in
set_option maxHeartbeats 8000000 in
theorem ralloc_new2 (mb p : Nat) (n : Int) (L : RLay) (F : List Nat) (ws : List Int) (kd : List PK) (w : World) (h : RpAt w mb L F ws (kindL kd) (bigL kd) kd) (hw : WF kd) (hcl : classI n = 2) (hp : nextR (hasL 2 kd) 0 true = -1) (hr : runR (takenL kd) 0 1 = p) :
    Calls Tryz.prog 62 #[.pointer (some ⟨mb, 0, none⟩), .int .i64 n] w fun e w' => ∃ L' F', e = .returned (.agg #[.int .i64 ((64 * p : Nat) : Int), .int .i64 0]) ∧ RpAt w' mb L' F' (fill0 ws (64 * p) 8) (kindL (kd.set p (.small 2 ((offs 8).set 0 true)))) (bigL (kd.set p (.small 2 ((offs 8).set 0 true)))) (kd.set p (.small 2 ((offs 8).set 0 true))) ∧ Keep F w w' ∧ Grows w F F' := by
  have hc : (2 : Nat) < 5 := by omega
  have HPN := (show Hid (∀ t, (kat kd t).has 2 = false) from none_has hp)
  have HR := (show Hid (runR (takenL kd) 0 1 = p) from hr)
  have hbl : blockI n = ((8 : Nat) : Int) := by rw [block_class n 2 hcl]; rfl
  have HB := (show Hid (blockI n = 8) from hbl)
  have HC := (show Hid (classI n = 2) from hcl)
  have hcr := run_clear (by omega) hr
  obtain ⟨hpl, hfree⟩ := clear_free hcr
  have HFP := (show Hid (kat kd p = .free) from hfree p (by omega) (by omega))
  have HPL := (show Hid (p < kd.length) from by show _ < _; omega)
  have hp0 : decide ((p : Int) < 0) = false := by rw [decide_eq_false_iff_not]; omega
  have f := h.f
  have hFlt := h.lt
  have HM := (show Hid (RpAt w mb L F ws (kindL kd) (bigL kd) kd) from h)
  have HW := (show Hid (WF kd) from hw)
  have hx := heap_alloc_new w (.cells #[.int .i64 0, .int .i64 0] 73)
  have hK := Keep.alloc [] w (.cells #[.int .i64 0, .int .i64 0] 73)
  obtain ⟨bx, hbx⟩ : ∃ bx, w.heap.size = bx := ⟨_, rfl⟩
  rw [hbx] at hx
  obtain ⟨nn, hnn⟩ : ∃ nn, kd.length = nn := ⟨_, rfl⟩
  have HN := (show Hid (kd.length = nn) from hnn)
  have hn2 : nn ≤ 256 := by rw [← hnn]; exact hw.len2
  have hpnn : p < nn := by omega
  have hbF : bx ∉ F := fun e => by have := hFlt _ e; omega
  obtain ⟨y, hy⟩ : ∃ y : Nat, 64 * p = y := ⟨_, rfl⟩
  have hyi : (p : Int) * 64 = y := by omega
  have hyb : y ≤ 20000 := by omega
  have HLE := (show Hid (y + 8 ≤ 64 * kd.length) from by show _ ≤ _; omega)
  rw [hy]
  have hmk : ∀ w, (Instr.makeSlice 137 (.int .i64 8) (.int .i64 8)).run Tryz.prog w = .ok (.slice (some ⟨w.heap.size, 0, none⟩) 8 8) (w.alloc (.cells (madeCells #[.bool false] 8) 4)) :=
    fun w => run_make_row' (P := Tryz.prog) 137 4 (.bool false) 1 Tryz.underlying137 Tryz.infoBool rfl .i64 .i64 8 (by omega) (by omega) w
  clear hcr hfree
  have HLX := (show Hid (∀ t ys, kat kd t = .small 2 ys → ys.length ≤ 32) from fun t ys e => by
    obtain ⟨_, hl, _⟩ := hw.small t 2 ys e
    have := (sz_facts 2 hc).2.2.2.2.2.1
    show ys.length ≤ 32
    omega)
  clear h hw hcl hp hr hbl hnn hy
  go_enter Tryz.func62, Tryz.ntmps62
  go_wp2_with fail
  refine (rblock_any _ _).mono ?_
  rw [HB.out]
  rintro e w1 ⟨rfl, hK1⟩
  go_wp2_with fail
  refine (rclass_any _ _).mono ?_
  rw [HC.out]
  rintro e w2 ⟨rfl, hK2⟩
  have hK3 := (hK.trans hK1).trans hK2
  have hM2 := HM.out.keep0 hK3
  have hx2 := (hK1.trans hK2).blk hx (by simp)
  have c1 := hM2.c1
  have c3 := hM2.c3
  rw [HN.out] at c1 c3
  have HM2 := (show Hid (RpAt w2 mb L F ws (kindL kd) (bigL kd) kd) from hM2)
  clear hM2 hK1 hK2 hK hx
  go_wp2_with fail
  go_loop [10] (fun v => ∃ j : Nat, v = .int .i64 j ∧ j ≤ nn) (fun v => nn - (intOf v).toNat)
  case atStart => exact ⟨0, rfl, by omega⟩
  case round =>
    obtain ⟨j, rfl, hj⟩ := hrel
    by_cases hlt : j < nn
    · have ck := HM2.out.ck (p := j) (by rw [HN.out]; omega)
      rw [kindL_get] at ck
      have hjn : decide ((j : Int) < (nn : Int)) = true := by rw [decide_eq_true_iff]; omega
      have HF := HPN.out j
      rcases kind_look (kd := kd) 2 j hc with ⟨hk1, _⟩ | ⟨ys, hk1, hh⟩
      · generalize (kat kd j).kind = kv at *
        have hkd : decide (kv = 2 + 1) = false := by rw [decide_eq_false_iff_not]; exact hk1
        have hkd2 : decide (kv = 3) = false := by rw [decide_eq_false_iff_not]; exact hk1
        have hkd3 : kv ≠ 3 := hk1
        clear HF
        go_wp2_with fail
        go_round
        case rel => exact ⟨j + 1, by go_num, by omega⟩
        case measure => simp [intOf]; omega
      · rw [hk1] at ck
        have hck : w2.cell? ⟨L.gk, j, none⟩ = some (.int .i64 3) := ck
        have ct : w2.cell? ⟨L.gt, j, none⟩ = some (.slice (some ⟨L.T j, 0, none⟩) ys.length ys.length) := by
          have := HM2.out.ct (p := j) (by rw [HN.out]; omega)
          rw [hk1] at this; exact this
        have hBR := HM2.out.page j 2 ys hk1
        have HYA := (show Hid (nextR ys (0 : Int).toNat false = -1) from by
          have ha := bool_no HF hh
          unfold allB at ha
          rcases nextR_spec ys false _ 0 rfl with ⟨e, _⟩ | ⟨l, e, _⟩
          · exact e
          · rw [e] at ha; have := of_decide_eq_true ha; omega)
        have hyl := HLX.out j ys hk1
        clear HF hh ck hk1
        go_wp2_with (first | (go_at_call 95; refine (rnext_any (L.T j) ys.length ys.length 0 false ys w2 hBR rfl (by omega) (by omega)).mono ?_; rw [HYA.out]; rintro e w' ⟨rfl, rfl⟩))
        go_round
        case rel => exact ⟨j + 1, by go_num, by omega⟩
        case measure => simp [intOf]; omega
    · obtain rfl : j = nn := by omega
      go_wp2_with fail
      refine (rpages_ok mb L F ws (bigL kd) kd w2 HM2.out HW.out.len1 HW.out.len2).mono ?_
      rw [HN.out]
      rintro e w3 ⟨g, rfl, hBR, hK4, hg⟩
      go_wp2_with fail
      refine (run_dn g j j 1 (takenL kd) w3 hBR (by rw [takenL_length, HN.out]) (by omega) (by omega)).mono ?_
      rw [HR.out]
      rintro e w' ⟨rfl, rfl⟩
      have hx1 := hK4.blk hx2 (by simp)
      have hM4 := HM2.out.keep0 hK4
      have c1 := hM4.c1
      have c3 := hM4.c3
      rw [HN.out] at c1 c3
      have ckp := hM4.ck (p := p) HPL.out
      have fkp := hM4.rowK.free p
      have hM5 := hM4.setK p 3
      have c3b := hM5.c3
      rw [HN.out] at c3b
      have ctp := hM5.ct (p := p) HPL.out
      have ftp := hM5.ft p
      have hx5 := (Keep.setCell (S := F) w3 (.int .i64 3) (a := ⟨L.gk, p, none⟩) f.2.2.1).blk hx1 hbF
      have hK5 := ((hK3.trans hK4).mono (T := F) (by simp)).trans (Keep.setCell w3 (.int .i64 3) (a := ⟨L.gk, p, none⟩) f.2.2.1)
      go_wp2_with fail
      generalize w3.setCell ⟨L.gk, p, none⟩ (.int .i64 3) = w5 at *
      have hM6 := hM5.keep0 (Keep.alloc [] w5 (.cells (madeCells #[.bool false] 8) 4))
      have c3d := hM6.c3
      rw [HN.out] at c3d
      have ctd := hM6.ct (p := p) HPL.out
      have ftd := hM6.ft p
      have hBR0 := BRow.made w5 4 8
      have hq5 : bx < w5.heap.size := lt_of_block hx5
      have hw5 : w.heap.size ≤ w5.heap.size := hK5.size
      have hqF : w5.heap.size ∉ F := fun e => by have := hM5.lt _ e; omega
      have hM7 := (hM6.gain (p := p) (c := 2) (q := w5.heap.size) (xs := offs 8) HPL.out hBR0 hqF).keep0 (Keep.drew [] _)
      rw [offs_length] at hM7
      have hK7 := ((hK5.trans ((Keep.alloc [] w5 (.cells (madeCells #[.bool false] 8) 4)).mono (by simp))).trans (Keep.setCell (S := F) _ (.slice (some ⟨w5.heap.size, 0, none⟩) 8 8) (a := ⟨L.gt, p, none⟩) f.2.2.2.2)).trans (Keep.drew F _)
      have hx7 := (Keep.drew F _).blk ((Keep.setCell (S := F) _ (.slice (some ⟨w5.heap.size, 0, none⟩) 8 8) (a := ⟨L.gt, p, none⟩) f.2.2.2.2).blk ((Keep.alloc F w5 (.cells (madeCells #[.bool false] 8) 4)).blk hx5 hbF) hbF) hbF
      go_region
      generalize ((w5.alloc (.cells (madeCells #[.bool false] 8) 4)).setCell ⟨L.gt, p, none⟩ (.slice (some ⟨w5.heap.size, 0, none⟩) 8 8)).drew = w8 at *
      obtain ⟨q, hq⟩ : ∃ q, w5.heap.size = q := ⟨_, rfl⟩
      rw [hq] at hM7 hqF hq5 hw5
      clear hM6 c3d ctd ftd hM5 c3b ctp ftp hM4 c1 c3 ckp fkp hBR0 hBR hK5 hx5 hq
      have hkat := kat_set_same kd p (.small 2 (offs 8)) HPL.out
      have c3e := hM7.c3
      rw [List.length_set, HN.out] at c3e
      have c3f : w8.cell? ⟨mb, 3, none⟩ = some (.slice (some ⟨L.gt, 0, none⟩) j j) := c3e
      have cte : w8.cell? ⟨L.gt, p, none⟩ = some (.slice (some ⟨q, 0, none⟩) 8 8) := by
        have := hM7.ct (p := p) (by rw [List.length_set]; exact HPL.out)
        rw [hkat] at this
        have e : (L.more p q).T p = q := if_pos rfl
        have e2 : (PK.small 2 (offs 8)).slot ((L.more p q).T p) = .slice (some ⟨q, 0, none⟩) 8 8 := by rw [e]; show Value.slice _ (offs 8).length (offs 8).length = _; rw [offs_length]
        rw [e2] at this
        exact this
      have hBRe : BRow w8 4 q (offs 8) := by
        have := hM7.page p 2 (offs 8) hkat
        have e : (L.more p q).T p = q := if_pos rfl
        rw [e] at this; exact this
      have cxe := hBRe.cell (i := 0) (by rw [offs_length]; omega)
      have fxe := hBRe.free 0
      have HNX := (show Hid (nextR (offs 8) (0 : Int).toNat false = 0) from nextR_is _ _ _ 0 (by omega) (by rw [offs_length]; omega) (offs_get _ _) (fun t a b => by omega))
      have hS9 := hM7.inner (i := 0) (b := true) hkat
      rw [List.set_set, show (L.more p q).T p = q from if_pos rfl] at hS9
      have HS9 := (show Hid (RpAt (w8.setCell ⟨q, 0, none⟩ (.bool true)) mb (L.more p q) (q :: F) ws ((kindL kd).set p 3) (bigL kd) (kd.set p (.small 2 ((offs 8).set 0 true)))) from hS9)
      have hbq : bx ∉ q :: F := fun e => by
        rcases List.mem_cons.1 e with e | e
        · omega
        · exact hbF e
      have hK9 := (hK7.mono (T := q :: F) (fun _ e => List.mem_cons_of_mem _ e)).trans (Keep.setCell w8 (.bool true) (a := ⟨q, 0, none⟩) (by simp))
      have hx9 := (Keep.setCell (S := q :: F) w8 (.bool true) (a := ⟨q, 0, none⟩) (by simp)).blk hx7 hbq
      clear hM7 hS9 c3e
      go_wp2_with (first | (go_at_call 95; refine (rnext_any q 8 8 0 false (offs 8) w8 hBRe (offs_length _) (by omega) (by omega)).mono ?_; rw [HNX.out]; rintro e w' ⟨rfl, rfl⟩))
      generalize w8.setCell ⟨q, 0, none⟩ (.bool true) = w10 at *
      refine (rfill_any mb y 8 (L.more p q) (q :: F) ws _ _ _ w10 HS9.out (by rw [List.length_set]; exact HLE.out) (by rw [List.length_set, HN.out]; exact hn2)).mono ?_
      rintro e w11 ⟨rfl, hR11, hK11⟩
      have hK12 := hK9.trans (hK11.mono (fun k e => by simp at e; subst e; exact List.mem_cons_of_mem _ f.2.1))
      have hx11 := hK11.blk hx9 (by simp; intro e; exact hbF (e ▸ f.2.1))
      have f0 : w11.frozen? ⟨bx, 0, none⟩ = false := by simp [World.frozen?, hx11]
      have f1 : w11.frozen? ⟨bx, 1, none⟩ = false := by simp [World.frozen?, hx11]
      have g0 : w11.cell? ⟨bx, 0, none⟩ = some (.int .i64 0) := by simp [World.cell?, hx11]
      have g1 : w11.cell? ⟨bx, 1, none⟩ = some (.int .i64 0) := by simp [World.cell?, hx11]
      have HKZ := (show Hid (∀ a b, Keep F w ((w11.setCell ⟨bx, 0, none⟩ a).setCell ⟨bx, 1, none⟩ b)) from fun a b => (Keep.two hK12 (by omega)).drop (fun k e hlt => by
        rcases List.mem_cons.1 e with e | e
        · omega
        · exact e))
      have HRZ := (show Hid (∀ u v, RpAt ((w11.setCell ⟨bx, 0, none⟩ u).setCell ⟨bx, 1, none⟩ v) mb (L.more p q) (q :: F) (fill0 ws y 8) ((kindL kd).set p 3) (bigL kd) (kd.set p (.small 2 ((offs 8).set 0 true)))) from fun u v => hR11.keep (S := [bx]) ((Keep.setCell w11 u (a := ⟨bx, 0, none⟩) (by simp)).trans (Keep.setCell _ v (a := ⟨bx, 1, none⟩) (by simp))) (fun k hq e => by simp at e; subst e; exact hbq hq))
      have HKS := (show Hid (kindL (kd.set p (.small 2 ((offs 8).set 0 true))) = (kindL kd).set p 3 ∧ bigL (kd.set p (.small 2 ((offs 8).set 0 true))) = bigL kd) from ⟨by simp [kindL, List.map_set, PK.kind], by
        refine eq_of_getD (by simp [bigL]) (fun t => ?_)
        rw [bigL_get, bigL_get, kat_set _ _ _ _ HPL.out]
        split
        · rename_i e; subst e; rw [HFP.out]; rfl
        · rfl⟩)
      have HGR := (show Hid (Grows w F (q :: F)) from fun k e => by
        rcases List.mem_cons.1 e with e | e
        · right; omega
        · exact .inl e)
      clear hR11 hK11 hK12 HS9 hx9 hK9
      go_wp2
      refine bodyPost_ret (results_cell_row rfl _ _ bx 73 #[.int .i64 y, .int .i64 0] (0, 0) _ rfl (two_set hx11) Tryz.underlying73 rfl (by kernel_rfl)) rfl ?_
      refine ⟨L.more p q, q :: F, rfl, ?_, HKZ.out _ _, HGR.out⟩
      rw [HKS.out.1, HKS.out.2]
      exact HRZ.out _ _

set_option maxRecDepth 100000 in
set_option maxHeartbeats 8000000 in
theorem ralloc_new3 (mb p : Nat) (n : Int) (L : RLay) (F : List Nat) (ws : List Int) (kd : List PK) (w : World) (h : RpAt w mb L F ws (kindL kd) (bigL kd) kd) (hw : WF kd) (hcl : classI n = 3) (hp : nextR (hasL 3 kd) 0 true = -1) (hr : runR (takenL kd) 0 1 = p) :
    Calls Tryz.prog 62 #[.pointer (some ⟨mb, 0, none⟩), .int .i64 n] w fun e w' => ∃ L' F', e = .returned (.agg #[.int .i64 ((64 * p : Nat) : Int), .int .i64 0]) ∧ RpAt w' mb L' F' (fill0 ws (64 * p) 16) (kindL (kd.set p (.small 3 ((offs 4).set 0 true)))) (bigL (kd.set p (.small 3 ((offs 4).set 0 true)))) (kd.set p (.small 3 ((offs 4).set 0 true))) ∧ Keep F w w' ∧ Grows w F F' := by
  have hc : (3 : Nat) < 5 := by omega
  have HPN := (show Hid (∀ t, (kat kd t).has 3 = false) from none_has hp)
  have HR := (show Hid (runR (takenL kd) 0 1 = p) from hr)
  have hbl : blockI n = ((16 : Nat) : Int) := by rw [block_class n 3 hcl]; rfl
  have HB := (show Hid (blockI n = 16) from hbl)
  have HC := (show Hid (classI n = 3) from hcl)
  have hcr := run_clear (by omega) hr
  obtain ⟨hpl, hfree⟩ := clear_free hcr
  have HFP := (show Hid (kat kd p = .free) from hfree p (by omega) (by omega))
  have HPL := (show Hid (p < kd.length) from by show _ < _; omega)
  have hp0 : decide ((p : Int) < 0) = false := by rw [decide_eq_false_iff_not]; omega
  have f := h.f
  have hFlt := h.lt
  have HM := (show Hid (RpAt w mb L F ws (kindL kd) (bigL kd) kd) from h)
  have HW := (show Hid (WF kd) from hw)
  have hx := heap_alloc_new w (.cells #[.int .i64 0, .int .i64 0] 73)
  have hK := Keep.alloc [] w (.cells #[.int .i64 0, .int .i64 0] 73)
  obtain ⟨bx, hbx⟩ : ∃ bx, w.heap.size = bx := ⟨_, rfl⟩
  rw [hbx] at hx
  obtain ⟨nn, hnn⟩ : ∃ nn, kd.length = nn := ⟨_, rfl⟩
  have HN := (show Hid (kd.length = nn) from hnn)
  have hn2 : nn ≤ 256 := by rw [← hnn]; exact hw.len2
  have hpnn : p < nn := by omega
  have hbF : bx ∉ F := fun e => by have := hFlt _ e; omega
  obtain ⟨y, hy⟩ : ∃ y : Nat, 64 * p = y := ⟨_, rfl⟩
  have hyi : (p : Int) * 64 = y := by omega
  have hyb : y ≤ 20000 := by omega
  have HLE := (show Hid (y + 16 ≤ 64 * kd.length) from by show _ ≤ _; omega)
  rw [hy]
  have hmk : ∀ w, (Instr.makeSlice 137 (.int .i64 4) (.int .i64 4)).run Tryz.prog w = .ok (.slice (some ⟨w.heap.size, 0, none⟩) 4 4) (w.alloc (.cells (madeCells #[.bool false] 4) 4)) :=
    fun w => run_make_row' (P := Tryz.prog) 137 4 (.bool false) 1 Tryz.underlying137 Tryz.infoBool rfl .i64 .i64 4 (by omega) (by omega) w
  clear hcr hfree
  have HLX := (show Hid (∀ t ys, kat kd t = .small 3 ys → ys.length ≤ 32) from fun t ys e => by
    obtain ⟨_, hl, _⟩ := hw.small t 3 ys e
    have := (sz_facts 3 hc).2.2.2.2.2.1
    show ys.length ≤ 32
    omega)
  clear h hw hcl hp hr hbl hnn hy
  go_enter Tryz.func62, Tryz.ntmps62
  go_wp2_with fail
  refine (rblock_any _ _).mono ?_
  rw [HB.out]
  rintro e w1 ⟨rfl, hK1⟩
  go_wp2_with fail
  refine (rclass_any _ _).mono ?_
  rw [HC.out]
  rintro e w2 ⟨rfl, hK2⟩
  have hK3 := (hK.trans hK1).trans hK2
  have hM2 := HM.out.keep0 hK3
  have hx2 := (hK1.trans hK2).blk hx (by simp)
  have c1 := hM2.c1
  have c3 := hM2.c3
  rw [HN.out] at c1 c3
  have HM2 := (show Hid (RpAt w2 mb L F ws (kindL kd) (bigL kd) kd) from hM2)
  clear hM2 hK1 hK2 hK hx
  go_wp2_with fail
  go_loop [10] (fun v => ∃ j : Nat, v = .int .i64 j ∧ j ≤ nn) (fun v => nn - (intOf v).toNat)
  case atStart => exact ⟨0, rfl, by omega⟩
  case round =>
    obtain ⟨j, rfl, hj⟩ := hrel
    by_cases hlt : j < nn
    · have ck := HM2.out.ck (p := j) (by rw [HN.out]; omega)
      rw [kindL_get] at ck
      have hjn : decide ((j : Int) < (nn : Int)) = true := by rw [decide_eq_true_iff]; omega
      have HF := HPN.out j
      rcases kind_look (kd := kd) 3 j hc with ⟨hk1, _⟩ | ⟨ys, hk1, hh⟩
      · generalize (kat kd j).kind = kv at *
        have hkd : decide (kv = 3 + 1) = false := by rw [decide_eq_false_iff_not]; exact hk1
        have hkd2 : decide (kv = 4) = false := by rw [decide_eq_false_iff_not]; exact hk1
        have hkd3 : kv ≠ 4 := hk1
        clear HF
        go_wp2_with fail
        go_round
        case rel => exact ⟨j + 1, by go_num, by omega⟩
        case measure => simp [intOf]; omega
      · rw [hk1] at ck
        have hck : w2.cell? ⟨L.gk, j, none⟩ = some (.int .i64 4) := ck
        have ct : w2.cell? ⟨L.gt, j, none⟩ = some (.slice (some ⟨L.T j, 0, none⟩) ys.length ys.length) := by
          have := HM2.out.ct (p := j) (by rw [HN.out]; omega)
          rw [hk1] at this; exact this
        have hBR := HM2.out.page j 3 ys hk1
        have HYA := (show Hid (nextR ys (0 : Int).toNat false = -1) from by
          have ha := bool_no HF hh
          unfold allB at ha
          rcases nextR_spec ys false _ 0 rfl with ⟨e, _⟩ | ⟨l, e, _⟩
          · exact e
          · rw [e] at ha; have := of_decide_eq_true ha; omega)
        have hyl := HLX.out j ys hk1
        clear HF hh ck hk1
        go_wp2_with (first | (go_at_call 95; refine (rnext_any (L.T j) ys.length ys.length 0 false ys w2 hBR rfl (by omega) (by omega)).mono ?_; rw [HYA.out]; rintro e w' ⟨rfl, rfl⟩))
        go_round
        case rel => exact ⟨j + 1, by go_num, by omega⟩
        case measure => simp [intOf]; omega
    · obtain rfl : j = nn := by omega
      go_wp2_with fail
      refine (rpages_ok mb L F ws (bigL kd) kd w2 HM2.out HW.out.len1 HW.out.len2).mono ?_
      rw [HN.out]
      rintro e w3 ⟨g, rfl, hBR, hK4, hg⟩
      go_wp2_with fail
      refine (run_dn g j j 1 (takenL kd) w3 hBR (by rw [takenL_length, HN.out]) (by omega) (by omega)).mono ?_
      rw [HR.out]
      rintro e w' ⟨rfl, rfl⟩
      have hx1 := hK4.blk hx2 (by simp)
      have hM4 := HM2.out.keep0 hK4
      have c1 := hM4.c1
      have c3 := hM4.c3
      rw [HN.out] at c1 c3
      have ckp := hM4.ck (p := p) HPL.out
      have fkp := hM4.rowK.free p
      have hM5 := hM4.setK p 4
      have c3b := hM5.c3
      rw [HN.out] at c3b
      have ctp := hM5.ct (p := p) HPL.out
      have ftp := hM5.ft p
      have hx5 := (Keep.setCell (S := F) w3 (.int .i64 4) (a := ⟨L.gk, p, none⟩) f.2.2.1).blk hx1 hbF
      have hK5 := ((hK3.trans hK4).mono (T := F) (by simp)).trans (Keep.setCell w3 (.int .i64 4) (a := ⟨L.gk, p, none⟩) f.2.2.1)
      go_wp2_with fail
      generalize w3.setCell ⟨L.gk, p, none⟩ (.int .i64 4) = w5 at *
      have hM6 := hM5.keep0 (Keep.alloc [] w5 (.cells (madeCells #[.bool false] 4) 4))
      have c3d := hM6.c3
      rw [HN.out] at c3d
      have ctd := hM6.ct (p := p) HPL.out
      have ftd := hM6.ft p
      have hBR0 := BRow.made w5 4 4
      have hq5 : bx < w5.heap.size := lt_of_block hx5
      have hw5 : w.heap.size ≤ w5.heap.size := hK5.size
      have hqF : w5.heap.size ∉ F := fun e => by have := hM5.lt _ e; omega
      have hM7 := (hM6.gain (p := p) (c := 3) (q := w5.heap.size) (xs := offs 4) HPL.out hBR0 hqF).keep0 (Keep.drew [] _)
      rw [offs_length] at hM7
      have hK7 := ((hK5.trans ((Keep.alloc [] w5 (.cells (madeCells #[.bool false] 4) 4)).mono (by simp))).trans (Keep.setCell (S := F) _ (.slice (some ⟨w5.heap.size, 0, none⟩) 4 4) (a := ⟨L.gt, p, none⟩) f.2.2.2.2)).trans (Keep.drew F _)
      have hx7 := (Keep.drew F _).blk ((Keep.setCell (S := F) _ (.slice (some ⟨w5.heap.size, 0, none⟩) 4 4) (a := ⟨L.gt, p, none⟩) f.2.2.2.2).blk ((Keep.alloc F w5 (.cells (madeCells #[.bool false] 4) 4)).blk hx5 hbF) hbF) hbF
      go_region
      generalize ((w5.alloc (.cells (madeCells #[.bool false] 4) 4)).setCell ⟨L.gt, p, none⟩ (.slice (some ⟨w5.heap.size, 0, none⟩) 4 4)).drew = w8 at *
      obtain ⟨q, hq⟩ : ∃ q, w5.heap.size = q := ⟨_, rfl⟩
      rw [hq] at hM7 hqF hq5 hw5
      clear hM6 c3d ctd ftd hM5 c3b ctp ftp hM4 c1 c3 ckp fkp hBR0 hBR hK5 hx5 hq
      have hkat := kat_set_same kd p (.small 3 (offs 4)) HPL.out
      have c3e := hM7.c3
      rw [List.length_set, HN.out] at c3e
      have c3f : w8.cell? ⟨mb, 3, none⟩ = some (.slice (some ⟨L.gt, 0, none⟩) j j) := c3e
      have cte : w8.cell? ⟨L.gt, p, none⟩ = some (.slice (some ⟨q, 0, none⟩) 4 4) := by
        have := hM7.ct (p := p) (by rw [List.length_set]; exact HPL.out)
        rw [hkat] at this
        have e : (L.more p q).T p = q := if_pos rfl
        have e2 : (PK.small 3 (offs 4)).slot ((L.more p q).T p) = .slice (some ⟨q, 0, none⟩) 4 4 := by rw [e]; show Value.slice _ (offs 4).length (offs 4).length = _; rw [offs_length]
        rw [e2] at this
        exact this
      have hBRe : BRow w8 4 q (offs 4) := by
        have := hM7.page p 3 (offs 4) hkat
        have e : (L.more p q).T p = q := if_pos rfl
        rw [e] at this; exact this
      have cxe := hBRe.cell (i := 0) (by rw [offs_length]; omega)
      have fxe := hBRe.free 0
      have HNX := (show Hid (nextR (offs 4) (0 : Int).toNat false = 0) from nextR_is _ _ _ 0 (by omega) (by rw [offs_length]; omega) (offs_get _ _) (fun t a b => by omega))
      have hS9 := hM7.inner (i := 0) (b := true) hkat
      rw [List.set_set, show (L.more p q).T p = q from if_pos rfl] at hS9
      have HS9 := (show Hid (RpAt (w8.setCell ⟨q, 0, none⟩ (.bool true)) mb (L.more p q) (q :: F) ws ((kindL kd).set p 4) (bigL kd) (kd.set p (.small 3 ((offs 4).set 0 true)))) from hS9)
      have hbq : bx ∉ q :: F := fun e => by
        rcases List.mem_cons.1 e with e | e
        · omega
        · exact hbF e
      have hK9 := (hK7.mono (T := q :: F) (fun _ e => List.mem_cons_of_mem _ e)).trans (Keep.setCell w8 (.bool true) (a := ⟨q, 0, none⟩) (by simp))
      have hx9 := (Keep.setCell (S := q :: F) w8 (.bool true) (a := ⟨q, 0, none⟩) (by simp)).blk hx7 hbq
      clear hM7 hS9 c3e
      go_wp2_with (first | (go_at_call 95; refine (rnext_any q 4 4 0 false (offs 4) w8 hBRe (offs_length _) (by omega) (by omega)).mono ?_; rw [HNX.out]; rintro e w' ⟨rfl, rfl⟩))
      generalize w8.setCell ⟨q, 0, none⟩ (.bool true) = w10 at *
      refine (rfill_any mb y 16 (L.more p q) (q :: F) ws _ _ _ w10 HS9.out (by rw [List.length_set]; exact HLE.out) (by rw [List.length_set, HN.out]; exact hn2)).mono ?_
      rintro e w11 ⟨rfl, hR11, hK11⟩
      have hK12 := hK9.trans (hK11.mono (fun k e => by simp at e; subst e; exact List.mem_cons_of_mem _ f.2.1))
      have hx11 := hK11.blk hx9 (by simp; intro e; exact hbF (e ▸ f.2.1))
      have f0 : w11.frozen? ⟨bx, 0, none⟩ = false := by simp [World.frozen?, hx11]
      have f1 : w11.frozen? ⟨bx, 1, none⟩ = false := by simp [World.frozen?, hx11]
      have g0 : w11.cell? ⟨bx, 0, none⟩ = some (.int .i64 0) := by simp [World.cell?, hx11]
      have g1 : w11.cell? ⟨bx, 1, none⟩ = some (.int .i64 0) := by simp [World.cell?, hx11]
      have HKZ := (show Hid (∀ a b, Keep F w ((w11.setCell ⟨bx, 0, none⟩ a).setCell ⟨bx, 1, none⟩ b)) from fun a b => (Keep.two hK12 (by omega)).drop (fun k e hlt => by
        rcases List.mem_cons.1 e with e | e
        · omega
        · exact e))
      have HRZ := (show Hid (∀ u v, RpAt ((w11.setCell ⟨bx, 0, none⟩ u).setCell ⟨bx, 1, none⟩ v) mb (L.more p q) (q :: F) (fill0 ws y 16) ((kindL kd).set p 4) (bigL kd) (kd.set p (.small 3 ((offs 4).set 0 true)))) from fun u v => hR11.keep (S := [bx]) ((Keep.setCell w11 u (a := ⟨bx, 0, none⟩) (by simp)).trans (Keep.setCell _ v (a := ⟨bx, 1, none⟩) (by simp))) (fun k hq e => by simp at e; subst e; exact hbq hq))
      have HKS := (show Hid (kindL (kd.set p (.small 3 ((offs 4).set 0 true))) = (kindL kd).set p 4 ∧ bigL (kd.set p (.small 3 ((offs 4).set 0 true))) = bigL kd) from ⟨by simp [kindL, List.map_set, PK.kind], by
        refine eq_of_getD (by simp [bigL]) (fun t => ?_)
        rw [bigL_get, bigL_get, kat_set _ _ _ _ HPL.out]
        split
        · rename_i e; subst e; rw [HFP.out]; rfl
        · rfl⟩)
      have HGR := (show Hid (Grows w F (q :: F)) from fun k e => by
        rcases List.mem_cons.1 e with e | e
        · right; omega
        · exact .inl e)
      clear hR11 hK11 hK12 HS9 hx9 hK9
      go_wp2
      refine bodyPost_ret (results_cell_row rfl _ _ bx 73 #[.int .i64 y, .int .i64 0] (0, 0) _ rfl (two_set hx11) Tryz.underlying73 rfl (by kernel_rfl)) rfl ?_
      refine ⟨L.more p q, q :: F, rfl, ?_, HKZ.out _ _, HGR.out⟩
      rw [HKS.out.1, HKS.out.2]
      exact HRZ.out _ _

set_option maxRecDepth 100000 in
set_option maxHeartbeats 8000000 in
theorem ralloc_new4 (mb p : Nat) (n : Int) (L : RLay) (F : List Nat) (ws : List Int) (kd : List PK) (w : World) (h : RpAt w mb L F ws (kindL kd) (bigL kd) kd) (hw : WF kd) (hcl : classI n = 4) (hp : nextR (hasL 4 kd) 0 true = -1) (hr : runR (takenL kd) 0 1 = p) :
    Calls Tryz.prog 62 #[.pointer (some ⟨mb, 0, none⟩), .int .i64 n] w fun e w' => ∃ L' F', e = .returned (.agg #[.int .i64 ((64 * p : Nat) : Int), .int .i64 0]) ∧ RpAt w' mb L' F' (fill0 ws (64 * p) 32) (kindL (kd.set p (.small 4 ((offs 2).set 0 true)))) (bigL (kd.set p (.small 4 ((offs 2).set 0 true)))) (kd.set p (.small 4 ((offs 2).set 0 true))) ∧ Keep F w w' ∧ Grows w F F' := by
  have hc : (4 : Nat) < 5 := by omega
  have HPN := (show Hid (∀ t, (kat kd t).has 4 = false) from none_has hp)
  have HR := (show Hid (runR (takenL kd) 0 1 = p) from hr)
  have hbl : blockI n = ((32 : Nat) : Int) := by rw [block_class n 4 hcl]; rfl
  have HB := (show Hid (blockI n = 32) from hbl)
  have HC := (show Hid (classI n = 4) from hcl)
  have hcr := run_clear (by omega) hr
  obtain ⟨hpl, hfree⟩ := clear_free hcr
  have HFP := (show Hid (kat kd p = .free) from hfree p (by omega) (by omega))
  have HPL := (show Hid (p < kd.length) from by show _ < _; omega)
  have hp0 : decide ((p : Int) < 0) = false := by rw [decide_eq_false_iff_not]; omega
  have f := h.f
  have hFlt := h.lt
  have HM := (show Hid (RpAt w mb L F ws (kindL kd) (bigL kd) kd) from h)
  have HW := (show Hid (WF kd) from hw)
  have hx := heap_alloc_new w (.cells #[.int .i64 0, .int .i64 0] 73)
  have hK := Keep.alloc [] w (.cells #[.int .i64 0, .int .i64 0] 73)
  obtain ⟨bx, hbx⟩ : ∃ bx, w.heap.size = bx := ⟨_, rfl⟩
  rw [hbx] at hx
  obtain ⟨nn, hnn⟩ : ∃ nn, kd.length = nn := ⟨_, rfl⟩
  have HN := (show Hid (kd.length = nn) from hnn)
  have hn2 : nn ≤ 256 := by rw [← hnn]; exact hw.len2
  have hpnn : p < nn := by omega
  have hbF : bx ∉ F := fun e => by have := hFlt _ e; omega
  obtain ⟨y, hy⟩ : ∃ y : Nat, 64 * p = y := ⟨_, rfl⟩
  have hyi : (p : Int) * 64 = y := by omega
  have hyb : y ≤ 20000 := by omega
  have HLE := (show Hid (y + 32 ≤ 64 * kd.length) from by show _ ≤ _; omega)
  rw [hy]
  have hmk : ∀ w, (Instr.makeSlice 137 (.int .i64 2) (.int .i64 2)).run Tryz.prog w = .ok (.slice (some ⟨w.heap.size, 0, none⟩) 2 2) (w.alloc (.cells (madeCells #[.bool false] 2) 4)) :=
    fun w => run_make_row' (P := Tryz.prog) 137 4 (.bool false) 1 Tryz.underlying137 Tryz.infoBool rfl .i64 .i64 2 (by omega) (by omega) w
  clear hcr hfree
  have HLX := (show Hid (∀ t ys, kat kd t = .small 4 ys → ys.length ≤ 32) from fun t ys e => by
    obtain ⟨_, hl, _⟩ := hw.small t 4 ys e
    have := (sz_facts 4 hc).2.2.2.2.2.1
    show ys.length ≤ 32
    omega)
  clear h hw hcl hp hr hbl hnn hy
  go_enter Tryz.func62, Tryz.ntmps62
  go_wp2_with fail
  refine (rblock_any _ _).mono ?_
  rw [HB.out]
  rintro e w1 ⟨rfl, hK1⟩
  go_wp2_with fail
  refine (rclass_any _ _).mono ?_
  rw [HC.out]
  rintro e w2 ⟨rfl, hK2⟩
  have hK3 := (hK.trans hK1).trans hK2
  have hM2 := HM.out.keep0 hK3
  have hx2 := (hK1.trans hK2).blk hx (by simp)
  have c1 := hM2.c1
  have c3 := hM2.c3
  rw [HN.out] at c1 c3
  have HM2 := (show Hid (RpAt w2 mb L F ws (kindL kd) (bigL kd) kd) from hM2)
  clear hM2 hK1 hK2 hK hx
  go_wp2_with fail
  go_loop [10] (fun v => ∃ j : Nat, v = .int .i64 j ∧ j ≤ nn) (fun v => nn - (intOf v).toNat)
  case atStart => exact ⟨0, rfl, by omega⟩
  case round =>
    obtain ⟨j, rfl, hj⟩ := hrel
    by_cases hlt : j < nn
    · have ck := HM2.out.ck (p := j) (by rw [HN.out]; omega)
      rw [kindL_get] at ck
      have hjn : decide ((j : Int) < (nn : Int)) = true := by rw [decide_eq_true_iff]; omega
      have HF := HPN.out j
      rcases kind_look (kd := kd) 4 j hc with ⟨hk1, _⟩ | ⟨ys, hk1, hh⟩
      · generalize (kat kd j).kind = kv at *
        have hkd : decide (kv = 4 + 1) = false := by rw [decide_eq_false_iff_not]; exact hk1
        have hkd2 : decide (kv = 5) = false := by rw [decide_eq_false_iff_not]; exact hk1
        have hkd3 : kv ≠ 5 := hk1
        clear HF
        go_wp2_with fail
        go_round
        case rel => exact ⟨j + 1, by go_num, by omega⟩
        case measure => simp [intOf]; omega
      · rw [hk1] at ck
        have hck : w2.cell? ⟨L.gk, j, none⟩ = some (.int .i64 5) := ck
        have ct : w2.cell? ⟨L.gt, j, none⟩ = some (.slice (some ⟨L.T j, 0, none⟩) ys.length ys.length) := by
          have := HM2.out.ct (p := j) (by rw [HN.out]; omega)
          rw [hk1] at this; exact this
        have hBR := HM2.out.page j 4 ys hk1
        have HYA := (show Hid (nextR ys (0 : Int).toNat false = -1) from by
          have ha := bool_no HF hh
          unfold allB at ha
          rcases nextR_spec ys false _ 0 rfl with ⟨e, _⟩ | ⟨l, e, _⟩
          · exact e
          · rw [e] at ha; have := of_decide_eq_true ha; omega)
        have hyl := HLX.out j ys hk1
        clear HF hh ck hk1
        go_wp2_with (first | (go_at_call 95; refine (rnext_any (L.T j) ys.length ys.length 0 false ys w2 hBR rfl (by omega) (by omega)).mono ?_; rw [HYA.out]; rintro e w' ⟨rfl, rfl⟩))
        go_round
        case rel => exact ⟨j + 1, by go_num, by omega⟩
        case measure => simp [intOf]; omega
    · obtain rfl : j = nn := by omega
      go_wp2_with fail
      refine (rpages_ok mb L F ws (bigL kd) kd w2 HM2.out HW.out.len1 HW.out.len2).mono ?_
      rw [HN.out]
      rintro e w3 ⟨g, rfl, hBR, hK4, hg⟩
      go_wp2_with fail
      refine (run_dn g j j 1 (takenL kd) w3 hBR (by rw [takenL_length, HN.out]) (by omega) (by omega)).mono ?_
      rw [HR.out]
      rintro e w' ⟨rfl, rfl⟩
      have hx1 := hK4.blk hx2 (by simp)
      have hM4 := HM2.out.keep0 hK4
      have c1 := hM4.c1
      have c3 := hM4.c3
      rw [HN.out] at c1 c3
      have ckp := hM4.ck (p := p) HPL.out
      have fkp := hM4.rowK.free p
      have hM5 := hM4.setK p 5
      have c3b := hM5.c3
      rw [HN.out] at c3b
      have ctp := hM5.ct (p := p) HPL.out
      have ftp := hM5.ft p
      have hx5 := (Keep.setCell (S := F) w3 (.int .i64 5) (a := ⟨L.gk, p, none⟩) f.2.2.1).blk hx1 hbF
      have hK5 := ((hK3.trans hK4).mono (T := F) (by simp)).trans (Keep.setCell w3 (.int .i64 5) (a := ⟨L.gk, p, none⟩) f.2.2.1)
      go_wp2_with fail
      generalize w3.setCell ⟨L.gk, p, none⟩ (.int .i64 5) = w5 at *
      have hM6 := hM5.keep0 (Keep.alloc [] w5 (.cells (madeCells #[.bool false] 2) 4))
      have c3d := hM6.c3
      rw [HN.out] at c3d
      have ctd := hM6.ct (p := p) HPL.out
      have ftd := hM6.ft p
      have hBR0 := BRow.made w5 4 2
      have hq5 : bx < w5.heap.size := lt_of_block hx5
      have hw5 : w.heap.size ≤ w5.heap.size := hK5.size
      have hqF : w5.heap.size ∉ F := fun e => by have := hM5.lt _ e; omega
      have hM7 := (hM6.gain (p := p) (c := 4) (q := w5.heap.size) (xs := offs 2) HPL.out hBR0 hqF).keep0 (Keep.drew [] _)
      rw [offs_length] at hM7
      have hK7 := ((hK5.trans ((Keep.alloc [] w5 (.cells (madeCells #[.bool false] 2) 4)).mono (by simp))).trans (Keep.setCell (S := F) _ (.slice (some ⟨w5.heap.size, 0, none⟩) 2 2) (a := ⟨L.gt, p, none⟩) f.2.2.2.2)).trans (Keep.drew F _)
      have hx7 := (Keep.drew F _).blk ((Keep.setCell (S := F) _ (.slice (some ⟨w5.heap.size, 0, none⟩) 2 2) (a := ⟨L.gt, p, none⟩) f.2.2.2.2).blk ((Keep.alloc F w5 (.cells (madeCells #[.bool false] 2) 4)).blk hx5 hbF) hbF) hbF
      go_region
      generalize ((w5.alloc (.cells (madeCells #[.bool false] 2) 4)).setCell ⟨L.gt, p, none⟩ (.slice (some ⟨w5.heap.size, 0, none⟩) 2 2)).drew = w8 at *
      obtain ⟨q, hq⟩ : ∃ q, w5.heap.size = q := ⟨_, rfl⟩
      rw [hq] at hM7 hqF hq5 hw5
      clear hM6 c3d ctd ftd hM5 c3b ctp ftp hM4 c1 c3 ckp fkp hBR0 hBR hK5 hx5 hq
      have hkat := kat_set_same kd p (.small 4 (offs 2)) HPL.out
      have c3e := hM7.c3
      rw [List.length_set, HN.out] at c3e
      have c3f : w8.cell? ⟨mb, 3, none⟩ = some (.slice (some ⟨L.gt, 0, none⟩) j j) := c3e
      have cte : w8.cell? ⟨L.gt, p, none⟩ = some (.slice (some ⟨q, 0, none⟩) 2 2) := by
        have := hM7.ct (p := p) (by rw [List.length_set]; exact HPL.out)
        rw [hkat] at this
        have e : (L.more p q).T p = q := if_pos rfl
        have e2 : (PK.small 4 (offs 2)).slot ((L.more p q).T p) = .slice (some ⟨q, 0, none⟩) 2 2 := by rw [e]; show Value.slice _ (offs 2).length (offs 2).length = _; rw [offs_length]
        rw [e2] at this
        exact this
      have hBRe : BRow w8 4 q (offs 2) := by
        have := hM7.page p 4 (offs 2) hkat
        have e : (L.more p q).T p = q := if_pos rfl
        rw [e] at this; exact this
      have cxe := hBRe.cell (i := 0) (by rw [offs_length]; omega)
      have fxe := hBRe.free 0
      have HNX := (show Hid (nextR (offs 2) (0 : Int).toNat false = 0) from nextR_is _ _ _ 0 (by omega) (by rw [offs_length]; omega) (offs_get _ _) (fun t a b => by omega))
      have hS9 := hM7.inner (i := 0) (b := true) hkat
      rw [List.set_set, show (L.more p q).T p = q from if_pos rfl] at hS9
      have HS9 := (show Hid (RpAt (w8.setCell ⟨q, 0, none⟩ (.bool true)) mb (L.more p q) (q :: F) ws ((kindL kd).set p 5) (bigL kd) (kd.set p (.small 4 ((offs 2).set 0 true)))) from hS9)
      have hbq : bx ∉ q :: F := fun e => by
        rcases List.mem_cons.1 e with e | e
        · omega
        · exact hbF e
      have hK9 := (hK7.mono (T := q :: F) (fun _ e => List.mem_cons_of_mem _ e)).trans (Keep.setCell w8 (.bool true) (a := ⟨q, 0, none⟩) (by simp))
      have hx9 := (Keep.setCell (S := q :: F) w8 (.bool true) (a := ⟨q, 0, none⟩) (by simp)).blk hx7 hbq
      clear hM7 hS9 c3e
      go_wp2_with (first | (go_at_call 95; refine (rnext_any q 2 2 0 false (offs 2) w8 hBRe (offs_length _) (by omega) (by omega)).mono ?_; rw [HNX.out]; rintro e w' ⟨rfl, rfl⟩))
      generalize w8.setCell ⟨q, 0, none⟩ (.bool true) = w10 at *
      refine (rfill_any mb y 32 (L.more p q) (q :: F) ws _ _ _ w10 HS9.out (by rw [List.length_set]; exact HLE.out) (by rw [List.length_set, HN.out]; exact hn2)).mono ?_
      rintro e w11 ⟨rfl, hR11, hK11⟩
      have hK12 := hK9.trans (hK11.mono (fun k e => by simp at e; subst e; exact List.mem_cons_of_mem _ f.2.1))
      have hx11 := hK11.blk hx9 (by simp; intro e; exact hbF (e ▸ f.2.1))
      have f0 : w11.frozen? ⟨bx, 0, none⟩ = false := by simp [World.frozen?, hx11]
      have f1 : w11.frozen? ⟨bx, 1, none⟩ = false := by simp [World.frozen?, hx11]
      have g0 : w11.cell? ⟨bx, 0, none⟩ = some (.int .i64 0) := by simp [World.cell?, hx11]
      have g1 : w11.cell? ⟨bx, 1, none⟩ = some (.int .i64 0) := by simp [World.cell?, hx11]
      have HKZ := (show Hid (∀ a b, Keep F w ((w11.setCell ⟨bx, 0, none⟩ a).setCell ⟨bx, 1, none⟩ b)) from fun a b => (Keep.two hK12 (by omega)).drop (fun k e hlt => by
        rcases List.mem_cons.1 e with e | e
        · omega
        · exact e))
      have HRZ := (show Hid (∀ u v, RpAt ((w11.setCell ⟨bx, 0, none⟩ u).setCell ⟨bx, 1, none⟩ v) mb (L.more p q) (q :: F) (fill0 ws y 32) ((kindL kd).set p 5) (bigL kd) (kd.set p (.small 4 ((offs 2).set 0 true)))) from fun u v => hR11.keep (S := [bx]) ((Keep.setCell w11 u (a := ⟨bx, 0, none⟩) (by simp)).trans (Keep.setCell _ v (a := ⟨bx, 1, none⟩) (by simp))) (fun k hq e => by simp at e; subst e; exact hbq hq))
      have HKS := (show Hid (kindL (kd.set p (.small 4 ((offs 2).set 0 true))) = (kindL kd).set p 5 ∧ bigL (kd.set p (.small 4 ((offs 2).set 0 true))) = bigL kd) from ⟨by simp [kindL, List.map_set, PK.kind], by
        refine eq_of_getD (by simp [bigL]) (fun t => ?_)
        rw [bigL_get, bigL_get, kat_set _ _ _ _ HPL.out]
        split
        · rename_i e; subst e; rw [HFP.out]; rfl
        · rfl⟩)
      have HGR := (show Hid (Grows w F (q :: F)) from fun k e => by
        rcases List.mem_cons.1 e with e | e
        · right; omega
        · exact .inl e)
      clear hR11 hK11 hK12 HS9 hx9 hK9
      go_wp2
      refine bodyPost_ret (results_cell_row rfl _ _ bx 73 #[.int .i64 y, .int .i64 0] (0, 0) _ rfl (two_set hx11) Tryz.underlying73 rfl (by kernel_rfl)) rfl ?_
      refine ⟨L.more p q, q :: F, rfl, ?_, HKZ.out _ _, HGR.out⟩
      rw [HKS.out.1, HKS.out.2]
      exact HRZ.out _ _

theorem ralloc_new (mb p c : Nat) (n : Int) (L : RLay) (F : List Nat) (ws : List Int) (kd : List PK) (w : World) (h : RpAt w mb L F ws (kindL kd) (bigL kd) kd) (hw : WF kd) (hcl : classI n = c) (hc : c < 5) (hp : nextR (hasL c kd) 0 true = -1) (hr : runR (takenL kd) 0 1 = p) :
    Calls Tryz.prog 62 #[.pointer (some ⟨mb, 0, none⟩), .int .i64 n] w fun e w' => ∃ L' F', e = .returned (.agg #[.int .i64 ((64 * p : Nat) : Int), .int .i64 0]) ∧ RpAt w' mb L' F' (fill0 ws (64 * p) (sz c)) (kindL (kd.set p (.small c ((offs (roomOf c)).set 0 true)))) (bigL (kd.set p (.small c ((offs (roomOf c)).set 0 true)))) (kd.set p (.small c ((offs (roomOf c)).set 0 true))) ∧ Keep F w w' ∧ Grows w F F' := by
  rcases (show c = 0 ∨ c = 1 ∨ c = 2 ∨ c = 3 ∨ c = 4 by omega) with rfl | rfl | rfl | rfl | rfl
  · exact ralloc_new0 mb p n L F ws kd w h hw hcl hp hr
  · exact ralloc_new1 mb p n L F ws kd w h hw hcl hp hr
  · exact ralloc_new2 mb p n L F ws kd w h hw hcl hp hr
  · exact ralloc_new3 mb p n L F ws kd w h hw hcl hp hr
  · exact ralloc_new4 mb p n L F ws kd w h hw hcl hp hr
/-- Alloc of the document's own that has room, and that has none. -/
theorem ralloc_yes (mb a b : Nat) (n : Int) (F : List Nat) (ws : List Int) (kd kd' : List PK) (w : World) (h : IsRef w mb F ws kd) (hw : WF kd) (hr : AllocR kd n (some (a, kd'))) (hb : blockI n = b) :
    Calls Tryz.prog 62 #[.pointer (some ⟨mb, 0, none⟩), .int .i64 n] w fun e w' => ∃ F', e = .returned (.agg #[.int .i64 a, .int .i64 0]) ∧ IsRef w' mb F' (fill0 ws a b) kd' ∧ Keep F w w' ∧ Grows w F F' := by
  obtain ⟨L, h⟩ := h
  cases hr with
  | old c p i xs e1 e2 e3 e4 e5 =>
    obtain ⟨hc, _, _⟩ := hw.small p c xs e3
    obtain rfl : b = sz c := by
      have := (sz_facts c hc).1
      rw [block_class n c e1] at hb
      unfold wordsOf at this
      omega
    refine (ralloc_old mb c p i n xs L F ws kd w h hw e1 hc e2 e3 e4 e5).mono ?_
    rintro e w' ⟨rfl, hS, hK⟩
    exact ⟨F, rfl, ⟨L, hS⟩, hK, Grows.refl _ _⟩
  | new c p e1 e2 e3 =>
    obtain ⟨c', hc', hc⟩ : ∃ j : Nat, classI n = j ∧ j < 5 := by
      rcases class_lt n with e | e
      · rw [e1] at e; omega
      · exact e
    obtain rfl : c = c' := by rw [e1] at hc'; omega
    obtain rfl : b = sz c := by
      have := (sz_facts c hc).1
      rw [block_class n c e1] at hb
      unfold wordsOf at this
      omega
    refine (ralloc_new mb p c n L F ws kd w h hw e1 hc e2 e3).mono ?_
    rintro e w' ⟨L', F', rfl, hS, hK, hG⟩
    exact ⟨F', rfl, ⟨L', hS⟩, hK, hG⟩
  | large k p e1 e2 e3 e4 =>
    obtain rfl : b = 64 * k := by rw [block_none n e1, e2] at hb; omega
    refine (ralloc_large mb k p n L F ws kd w h hw e1 e2 e3 e4).mono ?_
    rintro e w' ⟨rfl, hS, hK⟩
    exact ⟨F, rfl, ⟨L, hS⟩, hK, Grows.refl _ _⟩
theorem ralloc_no (mb : Nat) (n : Int) (F : List Nat) (ws : List Int) (kd : List PK) (w : World) (h : IsRef w mb F ws kd) (hw : WF kd) (hr : AllocR kd n none) :
    Calls Tryz.prog 62 #[.pointer (some ⟨mb, 0, none⟩), .int .i64 n] w fun e w' => e = .returned (.agg #[.int .i64 0, .int .i64 3]) ∧ Keep [] w w' := by
  obtain ⟨L, h⟩ := h
  cases hr with
  | full c e1 e2 e3 =>
    obtain ⟨c', hc', hc⟩ : ∃ j : Nat, classI n = j ∧ j < 5 := by
      rcases class_lt n with e | e
      · rw [e1] at e; omega
      · exact e
    obtain rfl : c = c' := by rw [e1] at hc'; omega
    exact ralloc_full mb c n L F ws kd w h hw e1 hc e2 e3
  | over k e1 e2 e3 e4 => exact ralloc_over mb k n L F ws kd w h hw e1 e2 e3 e4

end Go.Proofs.YtgpidokklhjfdaaGreat
