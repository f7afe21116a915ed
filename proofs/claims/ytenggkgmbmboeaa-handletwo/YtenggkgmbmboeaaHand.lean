/-
  Package handle: what its calls answer and leave, over handles in memory: one block of 512 slots, a turn and an address each.
-/
import Derived.Test.YtenggkgmbmboeaaRows
import Derived.Test.YtenggkgmbmboeaaHandM
import Derived.Test.YtenggkgmbmboeaaWide
namespace Go.Proofs.Ytenggkgmbmboeaa
open Go.RowKit

/-- Block b is handles: slot i holds xs i (0: nothing), in turn ts i. -/
structure IsHand (w : World) (b : Nat) (xs ts : List Int) : Prop where
  ex : ∃ L, Row w 60 b L ∧ L.length = 1024 ∧ ∀ i : Nat, i < 512 → L[i * 2]?.getD 0 + 1 = ts[i]?.getD 0 ∧ L[i * 2 + 1]?.getD 0 = xs[i]?.getD 0

theorem IsHand.lt {w : World} {b : Nat} {xs ts : List Int} (h : IsHand w b xs ts) : b < w.heap.size := by obtain ⟨L, h1, _⟩ := h.ex; exact h1.lt
theorem IsHand.keep {S : List Nat} {w w' : World} {b : Nat} {xs ts : List Int} (h : IsHand w b xs ts) (k : Keep S w w') (hS : b ∉ S) : IsHand w' b xs ts := by
  obtain ⟨L, h1, h2⟩ := h.ex
  exact ⟨L, h1.keep k hS, h2⟩
theorem IsHand.at {w : World} {b : Nat} {xs ts : List Int} (h : IsHand w b xs ts) (i : Nat) (hi : i < 512) :
    w.cell? ⟨b, i * 2, none⟩ = some (.int .i64 (ts[i]?.getD 0 - 1)) ∧ w.cell? ⟨b, i * 2 + 1, none⟩ = some (.int .i64 (xs[i]?.getD 0)) ∧ w.frozen? ⟨b, i * 2, none⟩ = false ∧ w.frozen? ⟨b, i * 2 + 1, none⟩ = false := by
  obtain ⟨L, h1, h2, h3⟩ := h.ex
  obtain ⟨h4, h5⟩ := h3 i hi
  refine ⟨?_, ?_, h1.free _, h1.free _⟩
  · rw [h1.cell (by omega), ← h4, Int.add_sub_cancel]
  · rw [h1.cell (by omega), h5]
theorem IsHand.putAt {w : World} {b : Nat} {xs ts : List Int} (h : IsHand w b xs ts) (hl : xs.length = 512) (i : Nat) (hi : i < 512) (a : Int) : IsHand (w.setCell ⟨b, i * 2 + 1, none⟩ (.int .i64 a)) b (xs.set i a) ts := by
  obtain ⟨L, h1, h2, h3⟩ := h.ex
  refine ⟨_, h1.put (i * 2 + 1) a, by rw [List.length_set]; exact h2, fun k hk => ?_⟩
  obtain ⟨h4, h5⟩ := h3 k hk
  rw [set_get_other _ _ _ _ (by omega)]
  refine ⟨h4, ?_⟩
  by_cases e : i = k
  · subst e; rw [set_get_same _ _ _ (by omega), set_get_same _ _ _ (by omega)]
  · rw [set_get_other _ _ _ _ (by omega), set_get_other _ _ _ _ e]; exact h5
theorem IsHand.putTurn {w : World} {b : Nat} {xs ts : List Int} (h : IsHand w b xs ts) (hl : ts.length = 512) (i : Nat) (hi : i < 512) (t : Int) : IsHand (w.setCell ⟨b, i * 2, none⟩ (.int .i64 t)) b xs (ts.set i (t + 1)) := by
  obtain ⟨L, h1, h2, h3⟩ := h.ex
  refine ⟨_, h1.put (i * 2) t, by rw [List.length_set]; exact h2, fun k hk => ?_⟩
  obtain ⟨h4, h5⟩ := h3 k hk
  rw [set_get_other _ _ (k * 2 + 1) _ (by omega)]
  refine ⟨?_, h5⟩
  by_cases e : i = k
  · subst e; rw [set_get_same _ _ _ (by omega), set_get_same _ _ _ (by omega)]
  · rw [set_get_other _ _ _ _ (by omega), set_get_other _ _ _ _ e]; exact h4

set_option maxRecDepth 100000 in
theorem info_handles : (Try.prog.info? 60).map (fun i => (i.zero, i.size, i.bytes)) = some (some (.agg (ints (zeros 1024)).toArray), 1024, 8192) := by kernel_rfl
theorem zero_handles : (∀ w, (zeroValue 60).run Try.prog w = .ok (.agg (ints (zeros 1024)).toArray) w) ∧ (Try.prog.info? 60).map (·.size) = some 1024 := by
  obtain ⟨i, hi, hz, hs, hb⟩ := info_parts info_handles
  exact ⟨fun w => by simp [zeroValue, typeInfo, hi, hz], by simp [hi, hs]⟩

set_option maxRecDepth 100000 in
set_option maxHeartbeats 1600000 in
theorem hnew_any (w : World) :
    Calls Try.prog 8 #[] w fun e w' => ∃ b, e = .returned (.pointer (some ⟨b, 0, none⟩)) ∧ IsHand w' b (zeros 512) onesL ∧ Keep [] w w' ∧ w.heap.size ≤ b := by
  obtain ⟨hz, hs⟩ := zero_handles
  obtain ⟨zs, hzs⟩ : ∃ zs, (ints (zeros 1024)).toArray = zs := ⟨_, rfl⟩
  have hn : ¬ zs = #[] := by rw [← hzs]; intro e; have := congrArg Array.size e; simp [ints_length, zeros_length] at this
  have hzn : zs.size = 1024 := by rw [← hzs]; simp [ints_length, zeros_length]
  rw [hzs] at hz
  have HZ := (show Hid (zs = (ints (zeros 1024)).toArray) from hzs.symm)
  clear hzs
  go_enter Try.func8, Try.ntmps8
  go_wp2
  go_ret
  have hk := heap_alloc_new w (.cells zs 60)
  rw [HZ.out] at hk
  refine ⟨_, rfl, ⟨zeros 1024, ?_, zeros_length _, fun i hi => by rw [zeros_get, zeros_get, zeros_get, onesL_get i hi]; omega⟩, Keep.alloc _ _ _, Nat.le_refl _⟩
  rw [HZ.out]; exact hk

set_option maxHeartbeats 1600000 in
theorem holds_any (b o : Nat) (x : Int) (w : World) (hc : w.cell? ⟨b, o + 1, none⟩ = some (.int .i64 x)) :
    Calls Try.prog 27 #[.pointer (some ⟨b, o, none⟩)] w fun e w' => e = .returned (.bool (!(x == 0))) ∧ w = w' := by
  go_enter Try.func27, Try.ntmps27
  go_wp2
  go_ret
  exact ⟨rfl, rfl⟩

set_option maxHeartbeats 1600000 in
theorem turn_any (b o : Nat) (x : Int) (w : World) (hc : w.cell? ⟨b, o, none⟩ = some (.int .i64 x)) (h0 : 0 ≤ x) (h1 : x ≤ 1000000000000000) :
    Calls Try.prog 28 #[.pointer (some ⟨b, o, none⟩)] w fun e w' => e = .returned (.int .i64 (x + 1)) ∧ w = w' := by
  go_enter Try.func28, Try.ntmps28
  go_wp2
  go_ret
  exact ⟨rfl, rfl⟩

set_option maxHeartbeats 1600000 in
theorem end_any (b o : Nat) (x : Int) (w : World) (hc : w.cell? ⟨b, o, none⟩ = some (.int .i64 x)) (hf : w.frozen? ⟨b, o, none⟩ = false) (h0 : 0 ≤ x) (h1 : x ≤ 1000000000000000) :
    Calls Try.prog 26 #[.pointer (some ⟨b, o, none⟩)] w fun e w' => e = .returned (.tuple #[]) ∧ w' = w.setCell ⟨b, o, none⟩ (.int .i64 (x + 1)) := by
  go_enter Try.func26, Try.ntmps26
  go_wp2
  go_end0
  exact ⟨rfl, rfl⟩

set_option maxHeartbeats 1600000 in
theorem number_any {B : Nat} (b i : Nat) (xs ts : List Int) (w : World) (h : IsHand w b xs ts) (hk : HOK B xs ts) (hB : B ≤ 1000000) (hi : i < 512) :
    Calls Try.prog 24 #[.pointer (some ⟨b, 0, none⟩), .int .i64 i] w fun e w' => e = .returned (.int .i64 ((i : Int) + 512 * ts[i]?.getD 0)) ∧ w = w' := by
  obtain ⟨c0, c1, f0, f1⟩ := h.at i hi
  have ht := hk.t i hi
  obtain ⟨t, hte⟩ : ∃ t, ts[i]?.getD 0 - 1 = t := ⟨_, rfl⟩
  rw [hte] at c0
  have htt : ts[i]?.getD 0 = t + 1 := by omega
  rw [htt] at ht ⊢
  have h0 : 0 ≤ t := by omega
  have h1 : t ≤ 1000000 := by omega
  clear h hk hte htt ht
  go_enter Try.func24, Try.ntmps24
  go_wp2_with (first | (go_at_call 28; refine (turn_any b (i * 2) t _ c0 h0 (by omega)).mono ?_; rintro e w' ⟨rfl, rfl⟩))
  go_ret
  exact ⟨rfl, rfl⟩

set_option maxRecDepth 100000 in
set_option maxHeartbeats 1600000 in
theorem free_any (b : Nat) (xs ts : List Int) (r : Int) (w : World) (h : IsHand w b xs ts) (hr : (∃ i, FreeAt xs i ∧ r = i) ∨ NoFree xs ∧ r = -1) :
    Calls Try.prog 23 #[.pointer (some ⟨b, 0, none⟩)] w fun e w' => e = .returned (.int .i64 r) ∧ w = w' := by
  have HH := (show Hid (IsHand w b xs ts) from h)
  have HR := (show Hid ((∃ i, FreeAt xs i ∧ r = i) ∨ NoFree xs ∧ r = -1) from hr)
  clear h hr
  go_enter Try.func23, Try.ntmps23
  go_wp2
  go_loop [3, 4] (fun v i => ∃ (vv : Value) (j : Nat), vv = v ∧ i = .int .i64 j ∧ j ≤ 512 ∧ Hid (∀ k, k < j → xs[k]?.getD 0 ≠ 0)) (fun _ i => 512 - (intOf i).toNat)
  case atStart => exact ⟨_, 0, rfl, rfl, by omega, fun k hk => by omega⟩
  case round =>
    obtain ⟨vv, j, rfl, rfl, hj, HJ⟩ := hrel
    by_cases hlt : j < 512
    · obtain ⟨_, c1, _, _⟩ := HH.out.at j hlt
      by_cases hx : xs[j]?.getD 0 = 0
      · rw [hx] at c1
        have HF := (show Hid (r = j) from by
          rcases HR.out with ⟨i, hf, e⟩ | ⟨hn, _⟩
          · have := hf.same (show FreeAt xs j from ⟨hlt, hx, HJ.out⟩)
            show r = j
            omega
          · exact absurd hx (hn j hlt))
        clear hx
        go_wp2_with (first | (go_at_call 27; refine (holds_any b (j * 2) _ _ c1).mono ?_; rintro e w' ⟨rfl, rfl⟩))
        go_ret
        exact ⟨by rw [HF.out]; rfl, rfl⟩
      · have HK := (show Hid (∀ k, k < j + 1 → xs[k]?.getD 0 ≠ 0) from fun k hk => by
          rcases Nat.lt_or_ge k j with e | e
          · exact HJ.out k e
          · obtain rfl : k = j := by omega
            exact hx)
        generalize xs[j]?.getD 0 = x at c1 hx
        have hb : (x == 0) = false := by rw [beq_eq_false_iff_ne]; exact hx
        clear hx
        go_wp2_with (first | (go_at_call 27; refine (holds_any b (j * 2) _ _ c1).mono ?_; rw [hb]; rintro e w' ⟨rfl, rfl⟩))
        go_round
        case rel => exact ⟨_, j + 1, rfl, by go_num, by omega, HK⟩
        case measure => simp [intOf]; omega
    · have hj5 : j = 512 := by omega
      have HF := (show Hid (r = -1) from by
        rcases HR.out with ⟨i, hf, e⟩ | ⟨_, e⟩
        · have hi := hf.1
          exact absurd hf.2.1 (HJ.out i (by rw [hj5]; exact hi))
        · exact e)
      go_wp2
      go_ret
      exact ⟨by rw [HF.out]; rfl, rfl⟩

/-- Where x names a slot that holds since, that slot; else none. -/
def PlaceT (xs ts : List Int) (x r : Int) : Prop := (Stale xs ts x ∧ r = -1) ∨ ∃ i : Nat, HeldAt xs ts x i ∧ r = i

set_option maxRecDepth 100000 in
set_option maxHeartbeats 1600000 in
theorem place_low (b : Nat) (x : Int) (w : World) (hx : x < 0) :
    Calls Try.prog 25 #[.pointer (some ⟨b, 0, none⟩), .int .i64 x] w fun e w' => e = .returned (.int .i64 (-1)) ∧ w = w' := by
  go_enter Try.func25, Try.ntmps25
  go_wp2
  go_ret
  exact ⟨rfl, rfl⟩
set_option maxHeartbeats 1600000 in
theorem place_nil (x : Int) (w : World) :
    Calls Try.prog 25 #[.pointer none, .int .i64 x] w fun e w' => e = .returned (.int .i64 (-1)) ∧ w = w' := by
  go_enter Try.func25, Try.ntmps25
  go_wp2
  go_ret
  exact ⟨rfl, rfl⟩

set_option maxRecDepth 100000 in
set_option maxHeartbeats 1600000 in
theorem place_core {B : Nat} (b i : Nat) (x r : Int) (xs ts : List Int) (w : World) (h : IsHand w b xs ts) (hk : HOK B xs ts) (hB : B ≤ 1000000) (hi : i < 512) (hx : 0 ≤ x) (hm : x.tmod 512 = i)
    (hr : r = if xs[i]?.getD 0 ≠ 0 ∧ (i : Int) + 512 * ts[i]?.getD 0 = x then (i : Int) else -1) :
    Calls Try.prog 25 #[.pointer (some ⟨b, 0, none⟩), .int .i64 x] w fun e w' => e = .returned (.int .i64 r) ∧ w = w' := by
  obtain ⟨_, c1, _, _⟩ := h.at i hi
  have HH := (show Hid (IsHand w b xs ts) from h)
  have HK := (show Hid (HOK B xs ts) from hk)
  have hd : decide (x < 0) = false := by rw [decide_eq_false_iff_not]; omega
  clear h hk
  by_cases hz : xs[i]?.getD 0 = 0
  · rw [hz] at c1
    have HR := (show Hid (r = -1) from by rw [hr, if_neg (by rw [hz]; simp)]; rfl)
    clear hr hz
    go_enter Try.func25, Try.ntmps25
    go_wp2_with (first | (go_at_call 27; refine (holds_any b (i * 2) _ _ c1).mono ?_; rintro e w' ⟨rfl, rfl⟩))
    go_ret
    exact ⟨by rw [HR.out]; rfl, rfl⟩
  · obtain ⟨N, hN⟩ : ∃ N, (i : Int) + 512 * ts[i]?.getD 0 = N := ⟨_, rfl⟩
    have HN := (show Hid ((i : Int) + 512 * ts[i]?.getD 0 = N) from hN)
    rw [hN] at hr
    by_cases he : N = x
    · rw [if_pos ⟨hz, he⟩] at hr
      have HR := (show Hid (r = i) from hr)
      have hb : (xs[i]?.getD 0 == 0) = false := by rw [beq_eq_false_iff_ne]; exact hz
      generalize xs[i]?.getD 0 = x0 at c1 hb
      have hne : (N == x) = true := by rw [beq_iff_eq]; exact he
      clear hr hz hN he
      go_enter Try.func25, Try.ntmps25
      go_wp2_with (first | (go_at_call 27; refine (holds_any b (i * 2) _ _ c1).mono ?_; rw [hb]; rintro e w' ⟨rfl, rfl⟩) | (go_at_call 24; refine (number_any b i xs ts _ HH.out HK.out hB hi).mono ?_; rw [HN.out]; rintro e w' ⟨rfl, rfl⟩))
      go_ret
      exact ⟨by rw [HR.out]; rfl, rfl⟩
    · rw [if_neg (fun h => he h.2)] at hr
      have HR := (show Hid (r = -1) from hr)
      have hb : (xs[i]?.getD 0 == 0) = false := by rw [beq_eq_false_iff_ne]; exact hz
      generalize xs[i]?.getD 0 = x0 at c1 hb
      have hne : (N == x) = false := by rw [beq_eq_false_iff_ne]; exact he
      clear hr hz hN he
      go_enter Try.func25, Try.ntmps25
      go_wp2_with (first | (go_at_call 27; refine (holds_any b (i * 2) _ _ c1).mono ?_; rw [hb]; rintro e w' ⟨rfl, rfl⟩) | (go_at_call 24; refine (number_any b i xs ts _ HH.out HK.out hB hi).mono ?_; rw [HN.out]; rintro e w' ⟨rfl, rfl⟩))
      go_ret
      exact ⟨by rw [HR.out]; rfl, rfl⟩
theorem place_any {B : Nat} (b : Nat) (x r : Int) (xs ts : List Int) (w : World) (h : IsHand w b xs ts) (hk : HOK B xs ts) (hB : B ≤ 1000000) (hr : PlaceT xs ts x r) :
    Calls Try.prog 25 #[.pointer (some ⟨b, 0, none⟩), .int .i64 x] w fun e w' => e = .returned (.int .i64 r) ∧ w = w' := by
  by_cases h0 : x < 0
  · rcases hr with ⟨_, rfl⟩ | ⟨i, ⟨h1, _, h3⟩, _⟩
    · exact place_low b x w h0
    · have := hk.t i h1; omega
  · obtain ⟨n, rfl⟩ := Int.eq_ofNat_of_zero_le (show 0 ≤ x by omega)
    have e1 : (n : Int).tmod 512 = ((n % 512 : Nat) : Int) := by rw [Int.tmod_eq_emod_of_nonneg (by omega)]; rfl
    have hm := Nat.mod_lt n (show 0 < 512 by omega)
    have hd := Nat.mod_add_div n 512
    generalize n % 512 = i at *
    refine place_core b i n r xs ts w h hk hB hm (by omega) e1 ?_
    rcases hr with ⟨h1, rfl⟩ | ⟨k, hk2, rfl⟩
    · rw [if_neg (fun g => h1 i ⟨hm, g.1, g.2.symm⟩)]
    · obtain ⟨g1, g2, g3⟩ := hk2
      have := hk.t k g1
      obtain rfl : i = k := by omega
      rw [if_pos ⟨g2, g3.symm⟩]

/-! ### What is held, asked for, dropped -/
set_option maxHeartbeats 1600000 in
theorem hhold_nil (a : Int) (w : World) :
    Calls Try.prog 12 #[.pointer none, .int .i64 a] w fun e w' => e = .returned (.tuple #[.int .i64 0, .int .i64 3]) ∧ w = w' := by
  go_enter Try.func12, Try.ntmps12
  go_wp2
  go_ret2
  exact ⟨rfl, rfl⟩
set_option maxRecDepth 100000 in
set_option maxHeartbeats 1600000 in
theorem hhold {B : Nat} (b : Nat) (a N E : Int) (xs ts xs' : List Int) (w : World) (h : IsHand w b xs ts) (hk : HOK B xs ts) (hB : B ≤ 1000000) (ha : a ≤ 9223372036854775807) (hr : HoldT xs ts a N E xs') :
    Calls Try.prog 12 #[.pointer (some ⟨b, 0, none⟩), .int .i64 a] w fun e w' => e = .returned (.tuple #[.int .i64 N, .int .i64 E]) ∧ IsHand w' b xs' ts ∧ Keep [b] w w' := by
  have HH := (show Hid (IsHand w b xs ts) from h)
  rcases hr with ⟨h1, rfl, rfl, rfl⟩ | ⟨h1, hn, rfl, rfl, rfl⟩ | ⟨h1, i, hf, hN, rfl, rfl⟩
  · clear h hk
    go_enter Try.func12, Try.ntmps12
    go_wp2
    go_ret2
    exact ⟨rfl, HH.out, Keep.refl _ _⟩
  · have HN := (show Hid (NoFree xs') from hn)
    have hd : decide (a < 1) = false := by rw [decide_eq_false_iff_not]; omega
    clear h hk hn
    go_enter Try.func12, Try.ntmps12
    go_wp2_with (first | (go_at_call 23; refine (free_any b xs' ts (-1) _ HH.out (.inr ⟨HN.out, rfl⟩)).mono ?_; rintro e w' ⟨rfl, rfl⟩))
    go_ret2
    exact ⟨rfl, HH.out, Keep.refl _ _⟩
  · have hi := hf.1
    obtain ⟨_, c1, _, f1⟩ := h.at i hi
    rw [hf.2.1] at c1
    have hk2 : HOK B (xs.set i a) ts := hk.set i a (by omega) ha
    have h2 := h.putAt hk.lx i hi a
    have HF := (show Hid (FreeAt xs i) from hf)
    have HN := (show Hid (N = (i : Int) + 512 * ts[i]?.getD 0) from hN)
    have HK2 := (show Hid (HOK B (xs.set i a) ts) from hk2)
    have H2 := (show Hid (IsHand (w.setCell ⟨b, i * 2 + 1, none⟩ (.int .i64 a)) b (xs.set i a) ts) from h2)
    have hd : decide (a < 1) = false := by rw [decide_eq_false_iff_not]; omega
    clear h hk hf h2 hk2 hN
    go_enter Try.func12, Try.ntmps12
    go_wp2_with (first | (go_at_call 23; refine (free_any b xs ts i _ HH.out (.inl ⟨i, HF.out, rfl⟩)).mono ?_; rintro e w' ⟨rfl, rfl⟩) | (go_at_call 24; refine (number_any b i (xs.set i a) ts _ H2.out HK2.out hB hi).mono ?_; rintro e w' ⟨rfl, rfl⟩))
    go_ret2
    exact ⟨by rw [HN.out]; rfl, H2.out, Keep.setCell _ _ (by simp)⟩

set_option maxHeartbeats 1600000 in
theorem hheld_nil (x : Int) (w : World) :
    Calls Try.prog 17 #[.pointer none, .int .i64 x] w fun e w' => e = .returned (.tuple #[.int .i64 0, .int .i64 6]) ∧ w = w' := by
  go_enter Try.func17, Try.ntmps17
  go_wp2_with (first | (go_at_call 25; refine (place_nil x _).mono ?_; rintro e w' ⟨rfl, rfl⟩))
  go_ret2
  exact ⟨rfl, rfl⟩
set_option maxRecDepth 100000 in
set_option maxHeartbeats 1600000 in
theorem hheld {B : Nat} (b : Nat) (x N E : Int) (xs ts : List Int) (w : World) (h : IsHand w b xs ts) (hk : HOK B xs ts) (hB : B ≤ 1000000) (hr : HeldT xs ts x N E) :
    Calls Try.prog 17 #[.pointer (some ⟨b, 0, none⟩), .int .i64 x] w fun e w' => e = .returned (.tuple #[.int .i64 N, .int .i64 E]) ∧ w = w' := by
  have HH := (show Hid (IsHand w b xs ts) from h)
  have HK := (show Hid (HOK B xs ts) from hk)
  rcases hr with ⟨h1, rfl, rfl⟩ | ⟨i, h1, rfl, rfl⟩
  · have HS := (show Hid (Stale xs ts x) from h1)
    clear h hk h1
    go_enter Try.func17, Try.ntmps17
    go_wp2_with (first | (go_at_call 25; refine (place_any b x (-1) xs ts _ HH.out HK.out hB (.inl ⟨HS.out, rfl⟩)).mono ?_; rintro e w' ⟨rfl, rfl⟩))
    go_ret2
    exact ⟨rfl, rfl⟩
  · have hi := h1.1
    obtain ⟨_, c1, _, _⟩ := h.at i hi
    have HS := (show Hid (HeldAt xs ts x i) from h1)
    generalize xs[i]?.getD 0 = N at c1 ⊢
    clear h hk h1
    go_enter Try.func17, Try.ntmps17
    go_wp2_with (first | (go_at_call 25; refine (place_any b x i xs ts _ HH.out HK.out hB (.inr ⟨i, HS.out, rfl⟩)).mono ?_; rintro e w' ⟨rfl, rfl⟩))
    go_ret2
    exact ⟨rfl, rfl⟩

set_option maxHeartbeats 1600000 in
theorem hdrop_nil (x : Int) (w : World) :
    Calls Try.prog 15 #[.pointer none, .int .i64 x] w fun e w' => e = .returned (.int .i64 6) ∧ w = w' := by
  go_enter Try.func15, Try.ntmps15
  go_wp2_with (first | (go_at_call 25; refine (place_nil x _).mono ?_; rintro e w' ⟨rfl, rfl⟩))
  go_ret
  exact ⟨rfl, rfl⟩
set_option maxRecDepth 100000 in
set_option maxHeartbeats 1600000 in
theorem hdrop {B : Nat} (b : Nat) (x E : Int) (xs ts xs' ts' : List Int) (w : World) (h : IsHand w b xs ts) (hk : HOK B xs ts) (hB : B ≤ 1000000) (hr : DropT xs ts x E xs' ts') :
    Calls Try.prog 15 #[.pointer (some ⟨b, 0, none⟩), .int .i64 x] w fun e w' => e = .returned (.int .i64 E) ∧ IsHand w' b xs' ts' ∧ Keep [b] w w' := by
  have HH := (show Hid (IsHand w b xs ts) from h)
  have HK := (show Hid (HOK B xs ts) from hk)
  rcases hr with ⟨h1, rfl, rfl, rfl⟩ | ⟨i, h1, rfl, rfl, rfl⟩
  · have HS := (show Hid (Stale xs' ts' x) from h1)
    clear h hk h1
    go_enter Try.func15, Try.ntmps15
    go_wp2_with (first | (go_at_call 25; refine (place_any b x (-1) xs' ts' _ HH.out HK.out hB (.inl ⟨HS.out, rfl⟩)).mono ?_; rintro e w' ⟨rfl, rfl⟩))
    go_ret
    exact ⟨rfl, HH.out, Keep.refl _ _⟩
  · have hi := h1.1
    obtain ⟨_, c1, _, f1⟩ := h.at i hi
    have h2 := h.putAt hk.lx i hi 0
    obtain ⟨d0, _, g0, _⟩ := h2.at i hi
    have htt := hk.t i hi
    have h3 := h2.putTurn hk.lt i hi (ts[i]?.getD 0)
    have HS := (show Hid (HeldAt xs ts x i) from h1)
    generalize xs[i]?.getD 0 = x0 at c1
    generalize ts[i]?.getD 0 = t0 at *
    obtain ⟨t1, ht1⟩ : ∃ t1, t0 - 1 = t1 := ⟨_, rfl⟩
    have ht0 : t0 = t1 + 1 := by omega
    rw [ht1] at d0
    rw [ht0] at htt h3 ⊢
    have H3 := (show Hid (IsHand _ b (xs.set i 0) (ts.set i (t1 + 1 + 1))) from h3)
    have q0 : 0 ≤ t1 := by omega
    have q1 : t1 ≤ 1000000 := by omega
    clear h hk h1 h2 h3 htt ht1 ht0
    go_enter Try.func15, Try.ntmps15
    go_wp2_with (first | (go_at_call 25; refine (place_any b x i xs ts _ HH.out HK.out hB (.inr ⟨i, HS.out, rfl⟩)).mono ?_; rintro e w' ⟨rfl, rfl⟩) | (go_at_call 26; refine (end_any b (i * 2) t1 _ d0 g0 q0 (by omega)).mono ?_; rintro e w' ⟨rfl, rfl⟩))
    go_ret
    exact ⟨rfl, H3.out, (Keep.setCell _ _ (by simp)).trans (Keep.setCell _ _ (by simp))⟩

end Go.Proofs.Ytenggkgmbmboeaa
