/-
  What each call of package soft does, and of the document's own.
-/
import Derived.Test.YtlpdaekejfhmjaaRows
import Derived.Test.YtlpdaekejfhmjaaBools
import Derived.ProofKit
import Derived.OpenShut
namespace Go.Proofs.Ytlpdaekejfhmjaa
open Go.RowKit

/-- A number, or 0 where it is below. -/
def upZ (n : Int) : Int := if n < 0 then 0 else n
theorem upZ_of (n : Int) : 0 ≤ upZ n ∧ n ≤ upZ n ∧ (upZ n = 0 ∨ upZ n = n) := by unfold upZ; split <;> omega
theorem upZ_neg (n : Int) (h : n < 0) : upZ n = 0 := by unfold upZ; rw [if_pos h]
theorem upZ_pos (n : Int) (h : 0 ≤ n) : upZ n = n := by unfold upZ; rw [if_neg (by omega)]
/-- A number that is an int. -/
def I64 (n : Int) : Prop := -9223372036854775808 ≤ n ∧ n ≤ 9223372036854775807
theorem i64_wf {n : Int} (h : (Lit.int .i64 n).wf = true) : I64 n := bounds_i64 h
theorem upZ_i64 {n : Int} (h : I64 n) : 0 ≤ upZ n ∧ upZ n ≤ 9223372036854775807 := by
  unfold I64 at h; have := upZ_of n; omega
/-- A number, or the greatest one where it is above. -/
def capM (n : Int) : Int := if 9223372036854775807 < n then 9223372036854775807 else n
theorem capM_of (n : Int) (h : 0 ≤ n) : 0 ≤ capM n ∧ capM n ≤ 9223372036854775807 := by unfold capM; split <;> omega
theorem capM_le (n : Int) (h : n ≤ 9223372036854775807) : capM n = n := by unfold capM; rw [if_neg (by omega)]
theorem capM_gt (n : Int) (h : 9223372036854775807 < n) : capM n = 9223372036854775807 := by unfold capM; rw [if_pos h]

def idleI (a b : Int) : Int := upZ (upZ a - upZ b)
def limitI (c d : Int) : Int := capM (upZ c * upZ d)
theorem idle_le {a : Int} (b : Int) (h : I64 a) : 0 ≤ idleI a b ∧ idleI a b ≤ 9223372036854775807 := by
  unfold idleI
  have := upZ_i64 h; have := upZ_of b; have := upZ_of (upZ a - upZ b)
  omega
theorem limit_le (c d : Int) : 0 ≤ limitI c d ∧ limitI c d ≤ 9223372036854775807 :=
  capM_of _ (Int.mul_nonneg (upZ_of c).1 (upZ_of d).1)

set_option maxHeartbeats 400000 in
theorem atLeast0_any (n : Int) (h : I64 n) (w : World) :
    Calls Try.prog 18 #[.int .i64 n] w fun e w' => e = .returned (.int .i64 (upZ n)) ∧ Keep [] w w' := by
  obtain ⟨h1, h2⟩ := h
  go_enter Try.func18, Try.ntmps18
  go_wp2
  · go_ret
    exact ⟨by rw [upZ_neg n h]; rfl, Keep.refl _ _⟩
  · go_ret
    exact ⟨by rw [upZ_pos n h]; rfl, Keep.refl _ _⟩

set_option maxHeartbeats 400000 in
theorem idle_any (a b : Int) (ha : I64 a) (hb : I64 b) (w : World) :
    Calls Try.prog 9 #[.int .i64 a, .int .i64 b] w fun e w' => e = .returned (.int .i64 (idleI a b)) ∧ Keep [] w w' := by
  have hx := upZ_i64 ha
  have hy := upZ_i64 hb
  obtain ⟨x, ex⟩ : ∃ x, upZ a = x := ⟨_, rfl⟩
  obtain ⟨y, ey⟩ : ∃ y, upZ b = y := ⟨_, rfl⟩
  rw [ex] at hx; rw [ey] at hy
  have HA := (show Hid (I64 a) from ha)
  have HB := (show Hid (I64 b) from hb)
  have HX := (show Hid (upZ a = x) from ex)
  have HY := (show Hid (upZ b = y) from ey)
  have HI := (show Hid (idleI a b = upZ (x - y)) from by show _ = _; unfold idleI; rw [ex, ey])
  have HZ := (show Hid (I64 (x - y)) from by show _ ∧ _; omega)
  clear ha hb ex ey
  go_enter Try.func9, Try.ntmps9
  go_wp2_with fail
  refine (atLeast0_any a HA.out _).mono ?_
  rw [HX.out]
  rintro e w1 ⟨rfl, hK1⟩
  go_wp2_with fail
  refine (atLeast0_any b HB.out _).mono ?_
  rw [HY.out]
  rintro e w2 ⟨rfl, hK2⟩
  go_wp2_with fail
  refine (atLeast0_any (x - y) HZ.out _).mono ?_
  rintro e w3 ⟨rfl, hK3⟩
  go_wp2_with fail
  go_ret
  exact ⟨by rw [HI.out]; rfl, (hK1.trans hK2).trans hK3⟩

theorem div_lt (x y : Int) (hx : 0 < x) : Int.tdiv 9223372036854775807 x < y ↔ 9223372036854775807 < x * y := by
  rw [Int.tdiv_eq_ediv_of_nonneg (by omega), Int.ediv_lt_iff_lt_mul hx, Int.mul_comm]
theorem div_le (x : Int) (hx : 0 < x) : 0 ≤ Int.tdiv 9223372036854775807 x ∧ Int.tdiv 9223372036854775807 x ≤ 9223372036854775807 := by
  rw [Int.tdiv_eq_ediv_of_nonneg (by omega)]
  exact ⟨Int.ediv_nonneg (by omega) (by omega), Int.ediv_le_self _ (by omega)⟩

set_option maxHeartbeats 400000 in
theorem limit_any (c d : Int) (hc : I64 c) (hd : I64 d) (w : World) :
    Calls Try.prog 11 #[.int .i64 c, .int .i64 d] w fun e w' => e = .returned (.int .i64 (limitI c d)) ∧ Keep [] w w' := by
  have hx := upZ_i64 hc
  have hy := upZ_i64 hd
  obtain ⟨x, ex⟩ : ∃ x, upZ c = x := ⟨_, rfl⟩
  obtain ⟨y, ey⟩ : ∃ y, upZ d = y := ⟨_, rfl⟩
  rw [ex] at hx; rw [ey] at hy
  have HA := (show Hid (I64 c) from hc)
  have HB := (show Hid (I64 d) from hd)
  have HX := (show Hid (upZ c = x) from ex)
  have HY := (show Hid (upZ d = y) from ey)
  have HI := (show Hid (limitI c d = capM (x * y)) from by show _ = _; unfold limitI; rw [ex, ey])
  clear hc hd ex ey
  by_cases h0 : 0 < x
  · have hdl := div_lt x y h0
    have hdb := div_le x h0
    obtain ⟨q, hq⟩ : ∃ q, Int.tdiv 9223372036854775807 x = q := ⟨_, rfl⟩
    rw [hq] at hdl hdb
    by_cases h1 : q < y
    · have HC := (show Hid (limitI c d = 9223372036854775807) from by show _ = _; rw [HI.out, capM_gt _ (hdl.1 h1)])
      clear hdl HI
      go_enter Try.func11, Try.ntmps11
      go_wp2_with fail
      refine (atLeast0_any c HA.out _).mono ?_
      rw [HX.out]
      rintro e w1 ⟨rfl, hK1⟩
      go_wp2_with fail
      refine (atLeast0_any d HB.out _).mono ?_
      rw [HY.out]
      rintro e w2 ⟨rfl, hK2⟩
      go_wp2_with fail
      go_ret
      exact ⟨by rw [HC.out]; rfl, hK1.trans hK2⟩
    · have hp : 0 ≤ x * y ∧ x * y ≤ 9223372036854775807 := ⟨Int.mul_nonneg hx.1 hy.1, by have := mt hdl.2 h1; omega⟩
      obtain ⟨p, ep⟩ : ∃ p, x * y = p := ⟨_, rfl⟩
      rw [ep] at hp
      have HC := (show Hid (limitI c d = p) from by show _ = _; rw [HI.out, ep, capM_le _ hp.2])
      clear hdl HI
      go_enter Try.func11, Try.ntmps11
      go_wp2_with fail
      refine (atLeast0_any c HA.out _).mono ?_
      rw [HX.out]
      rintro e w1 ⟨rfl, hK1⟩
      go_wp2_with fail
      refine (atLeast0_any d HB.out _).mono ?_
      rw [HY.out]
      rintro e w2 ⟨rfl, hK2⟩
      go_wp2_with fail
      go_ret
      exact ⟨by rw [HC.out]; rfl, hK1.trans hK2⟩
  · obtain rfl : x = 0 := by omega
    have HC := (show Hid (limitI c d = 0) from by show _ = _; rw [HI.out, Int.zero_mul, capM_le _ (by omega)])
    clear HI
    go_enter Try.func11, Try.ntmps11
    go_wp2_with fail
    refine (atLeast0_any c HA.out _).mono ?_
    rw [HX.out]
    rintro e w1 ⟨rfl, hK1⟩
    go_wp2_with fail
    refine (atLeast0_any d HB.out _).mono ?_
    rw [HY.out]
    rintro e w2 ⟨rfl, hK2⟩
    go_wp2_with fail
    go_ret
    exact ⟨by rw [HC.out]; rfl, hK1.trans hK2⟩

set_option maxHeartbeats 400000 in
theorem keep_any (a b c d : Int) (ha : I64 a) (hb : I64 b) (hc : I64 c) (hd : I64 d) (w : World) :
    Calls Try.prog 13 #[.int .i64 a, .int .i64 b, .int .i64 c, .int .i64 d] w fun e w' => e = .returned (.bool (decide (idleI a b ≤ limitI c d))) ∧ Keep [] w w' := by
  have hi := idle_le b ha
  have hl := limit_le c d
  obtain ⟨i, ei⟩ : ∃ i, idleI a b = i := ⟨_, rfl⟩
  obtain ⟨l, el⟩ : ∃ l, limitI c d = l := ⟨_, rfl⟩
  rw [ei] at hi; rw [el] at hl
  rw [ei, el]
  have HA := (show Hid (I64 a) from ha)
  have HB := (show Hid (I64 b) from hb)
  have HC := (show Hid (I64 c) from hc)
  have HD := (show Hid (I64 d) from hd)
  have HI := (show Hid (idleI a b = i) from ei)
  have HL := (show Hid (limitI c d = l) from el)
  clear ha hb hc hd ei el
  go_enter Try.func13, Try.ntmps13
  go_wp2_with fail
  refine (idle_any a b HA.out HB.out _).mono ?_
  rw [HI.out]
  rintro e w1 ⟨rfl, hK1⟩
  go_wp2_with fail
  refine (limit_any c d HC.out HD.out _).mono ?_
  rw [HL.out]
  rintro e w2 ⟨rfl, hK2⟩
  go_wp2_with fail
  go_ret
  exact ⟨rfl, hK1.trans hK2⟩

/-- What a list's numbers make together, each at least 0. -/
def sumU (L : List Int) : Int := (L.map upZ).sum
theorem sumU_nil : sumU [] = 0 := rfl
theorem sumU_cons (x : Int) (L : List Int) : sumU (x :: L) = upZ x + sumU L := by simp [sumU]
theorem sumU_app (L M : List Int) : sumU (L ++ M) = sumU L + sumU M := by simp [sumU]
theorem sumU_nonneg (L : List Int) : 0 ≤ sumU L := by
  induction L with
  | nil => simp [sumU]
  | cons x L ih => rw [sumU_cons]; have := upZ_of x; omega
theorem sumU_snoc (L : List Int) (j : Nat) (h : j < L.length) : sumU (L.take (j + 1)) = sumU (L.take j) + upZ (L[j]?.getD 0) := by
  have e : L.take (j + 1) = L.take j ++ [L[j]?.getD 0] := by rw [List.take_add_one]; simp [h]
  rw [e, sumU_app, sumU_cons, sumU_nil]; omega
theorem sumU_take (L : List Int) (j : Nat) : sumU (L.take j) ≤ sumU L := by
  have h : sumU L = sumU (L.take j) + sumU (L.drop j) := by rw [← sumU_app, List.take_append_drop]
  have := sumU_nonneg (L.drop j)
  omega
theorem sumU_back (L : List Int) (j : Nat) (h : j < L.length) : sumU (L.drop j) = upZ (L[j]?.getD 0) + sumU (L.drop (j + 1)) := by
  rw [List.drop_eq_getElem_cons h, sumU_cons]
  simp [h]
def laterI (a : Int) (L : List Int) : Int := capM (upZ a + sumU L)
theorem later_le (a : Int) (L : List Int) : 0 ≤ laterI a L ∧ laterI a L ≤ 9223372036854775807 := by
  have := upZ_of a; have := sumU_nonneg L
  exact capM_of _ (by omega)
theorem later_over (a : Int) (L : List Int) (j : Nat) (h : 9223372036854775807 < upZ a + sumU (L.take j)) : laterI a L = 9223372036854775807 := by
  have := sumU_take L j
  exact capM_gt _ (by omega)
theorem later_nil (a : Int) (h : I64 a) : laterI a [] = upZ a := by
  unfold laterI
  rw [sumU_nil, Int.add_zero, capM_le _ (upZ_i64 h).2]

set_option maxHeartbeats 800000 in
theorem later_any (a : Int) (ao : Option Addr) (n c : Nat) (L : List Int) (w : World) (ha : I64 a) (hI : IntsAt w ao L) (hn : L.length = n) (hb : n ≤ 9223372036854775807) :
    Calls Try.prog 15 #[.int .i64 a, .slice ao n c] w fun e w' => e = .returned (.int .i64 (laterI a L)) ∧ Keep [] w w' := by
  have hx := upZ_i64 ha
  obtain ⟨x, ex⟩ : ∃ x, upZ a = x := ⟨_, rfl⟩
  rw [ex] at hx
  have HA := (show Hid (I64 a) from ha)
  have HX := (show Hid (upZ a = x) from ex)
  have HI := (show Hid (0 < n → ∃ b off, ao = some ⟨b, off, none⟩ ∧ b < w.heap.size ∧ ∀ i, i < n → w.cell? ⟨b, off + i, none⟩ = some (.int .i64 (L[i]?.getD 0))) from fun h => by rw [← hn] at h ⊢; exact hI.cells h)
  have HB := (show Hid (∀ i : Nat, I64 (L[i]?.getD 0)) from fun i => ⟨hI.low i, hI.high i⟩)
  have HN := (show Hid (L.length = n) from hn)
  clear hI hn ha ex
  go_enter Try.func15, Try.ntmps15
  go_wp2_with fail
  refine (atLeast0_any a HA.out _).mono ?_
  rw [HX.out]
  rintro e w1 ⟨rfl, hK1⟩
  go_wp2_with fail
  go_loopw [5, 12] (fun s i wr => ∃ (j : Nat) (z : Int), s = .int .i64 z ∧ i = .int .i64 j ∧ j ≤ n ∧ 0 ≤ z ∧ z ≤ 9223372036854775807 ∧ Hid (x + sumU (L.take j) = z) ∧ Keep [] w wr) (fun _ i _ => n - (intOf i).toNat)
  case atStart => exact ⟨0, x, rfl, rfl, by omega, by omega, by omega, show x + sumU (L.take 0) = x from Int.add_zero x, hK1⟩
  case round =>
    obtain ⟨j, z, rfl, rfl, hj, hz1, hz2, HZ, hK⟩ := hrel
    by_cases hlt : j < n
    · obtain ⟨b, off, rfl, hbs, hcell⟩ := HI.out (by omega)
      obtain ⟨y, hy⟩ : ∃ y, L[j]?.getD 0 = y := ⟨_, rfl⟩
      have hc := (hK.cell hbs (by simp) (off + j)).trans (hcell j hlt)
      have HY := (show Hid (I64 y) from hy ▸ HB.out j)
      rw [hy] at hc
      have hu := upZ_i64 HY.out
      obtain ⟨u, eu⟩ : ∃ u, upZ y = u := ⟨_, rfl⟩
      rw [eu] at hu
      have HU := (show Hid (upZ y = u) from eu)
      have HS := (show Hid (x + sumU (L.take (j + 1)) = z + u) by
        show _ = _
        rw [sumU_snoc L j (by rw [HN.out]; exact hlt), hy, eu]
        have := HZ.out
        omega)
      clear hcell hy eu
      by_cases hov : 9223372036854775807 - z < u
      · have HF := (show Hid (laterI a L = 9223372036854775807) from later_over a L (j + 1) (by rw [HX.out, HS.out]; omega))
        go_wp2_with fail
        refine (atLeast0_any y HY.out _).mono ?_
        rw [HU.out]
        rintro e w2 ⟨rfl, hK2⟩
        go_wp2_with fail
        go_ret
        exact ⟨by rw [HF.out]; rfl, hK.trans hK2⟩
      · go_wp2_with fail
        refine (atLeast0_any y HY.out _).mono ?_
        rw [HU.out]
        rintro e w2 ⟨rfl, hK2⟩
        go_wp2_with fail
        go_roundw
        case rel => exact ⟨j + 1, z + u, by go_num, by go_num, by omega, by omega, by omega, HS, hK.trans hK2⟩
        case measure => simp [intOf]; omega
    · obtain rfl : j = n := by omega
      have HS := (show Hid (laterI a L = z) by
        show _ = _
        have e := HZ.out
        rw [List.take_of_length_le (by rw [HN.out]; omega)] at e
        unfold laterI
        rw [HX.out, e, capM_le _ hz2])
      go_wp2_with fail
      go_ret
      exact ⟨by rw [HS.out]; rfl, hK⟩

set_option maxHeartbeats 800000 in
theorem ridle_any (a b : Int) (ha : I64 a) (hb : I64 b) (w : World) :
    Calls Try.prog 10 #[.int .i64 a, .int .i64 b] w fun e w' => e = .returned (.int .i64 (idleI a b)) ∧ Keep [] w w' := by
  obtain ⟨a1, a2⟩ := ha
  obtain ⟨b1, b2⟩ := hb
  go_enter Try.func10, Try.ntmps10
  go_wp2_with fail
  all_goals
    go_ret
    refine ⟨congrArg (fun z => Ending.returned (.int .i64 z)) (?_ : (_ : Int) = idleI a b), Keep.refl _ _⟩
    unfold idleI upZ
    repeat' split
    all_goals omega

set_option maxHeartbeats 800000 in
theorem rlimit_any (c d : Int) (hc : I64 c) (hd : I64 d) (w : World) :
    Calls Try.prog 12 #[.int .i64 c, .int .i64 d] w fun e w' => e = .returned (.int .i64 (limitI c d)) ∧ Keep [] w w' := by
  obtain ⟨c1, c2⟩ := hc
  obtain ⟨d1, d2⟩ := hd
  by_cases h0 : 0 < d
  · have hdb := div_le d h0
    by_cases h1 : c ≤ 0
    · have HC := (show Hid (limitI c d = 0) from by
        have := upZ_of c
        show _ = _
        unfold limitI
        rw [show upZ c = 0 by omega, Int.zero_mul, capM_le _ (by omega)])
      obtain ⟨q, hq⟩ : ∃ q, Int.tdiv 9223372036854775807 d = q := ⟨_, rfl⟩
      rw [hq] at hdb
      go_enter Try.func12, Try.ntmps12
      go_wp2_with fail
      go_ret
      exact ⟨by rw [HC.out]; rfl, Keep.refl _ _⟩
    · have hdl := div_lt d c h0
      have hL : limitI c d = capM (c * d) := by unfold limitI; rw [upZ_pos c (by omega), upZ_pos d (by omega)]
      rw [Int.mul_comm d c] at hdl
      obtain ⟨q, hq⟩ : ∃ q, Int.tdiv 9223372036854775807 d = q := ⟨_, rfl⟩
      rw [hq] at hdl hdb
      by_cases h2 : q < c
      · have HC := (show Hid (limitI c d = 9223372036854775807) from by show _ = _; rw [hL, capM_gt _ (hdl.1 h2)])
        clear hdl hL
        go_enter Try.func12, Try.ntmps12
        go_wp2_with fail
        go_ret
        exact ⟨by rw [HC.out]; rfl, Keep.refl _ _⟩
      · have hp : 0 ≤ c * d ∧ c * d ≤ 9223372036854775807 := ⟨Int.mul_nonneg (by omega) (by omega), by have := mt hdl.2 h2; omega⟩
        obtain ⟨p, ep⟩ : ∃ p, c * d = p := ⟨_, rfl⟩
        rw [ep] at hp
        have HC := (show Hid (limitI c d = p) from by show _ = _; rw [hL, ep, capM_le _ hp.2])
        clear hdl hL
        go_enter Try.func12, Try.ntmps12
        go_wp2_with fail
        go_ret
        exact ⟨by rw [HC.out]; rfl, Keep.refl _ _⟩
  · have HC := (show Hid (limitI c d = 0) from by
      have := upZ_of d
      show _ = _
      unfold limitI
      rw [show upZ d = 0 by omega, Int.mul_zero, capM_le _ (by omega)])
    go_enter Try.func12, Try.ntmps12
    go_wp2_with fail
    all_goals
      go_ret
      refine ⟨?_, Keep.refl _ _⟩
      rw [HC.out]
    all_goals simp

set_option maxHeartbeats 400000 in
theorem rkeep_any (a b c d : Int) (ha : I64 a) (hb : I64 b) (hc : I64 c) (hd : I64 d) (w : World) :
    Calls Try.prog 14 #[.int .i64 a, .int .i64 b, .int .i64 c, .int .i64 d] w fun e w' => e = .returned (.bool (decide (idleI a b ≤ limitI c d))) ∧ Keep [] w w' := by
  have hi := idle_le b ha
  have hl := limit_le c d
  obtain ⟨i, ei⟩ : ∃ i, idleI a b = i := ⟨_, rfl⟩
  obtain ⟨l, el⟩ : ∃ l, limitI c d = l := ⟨_, rfl⟩
  rw [ei] at hi; rw [el] at hl
  rw [ei, el]
  have HA := (show Hid (I64 a) from ha)
  have HB := (show Hid (I64 b) from hb)
  have HC := (show Hid (I64 c) from hc)
  have HD := (show Hid (I64 d) from hd)
  have HI := (show Hid (idleI a b = i) from ei)
  have HL := (show Hid (limitI c d = l) from el)
  clear ha hb hc hd ei el
  go_enter Try.func14, Try.ntmps14
  go_wp2_with fail
  refine (ridle_any a b HA.out HB.out _).mono ?_
  rw [HI.out]
  rintro e w1 ⟨rfl, hK1⟩
  go_wp2_with fail
  refine (rlimit_any c d HC.out HD.out _).mono ?_
  rw [HL.out]
  rintro e w2 ⟨rfl, hK2⟩
  go_wp2_with fail
  go_ret
  exact ⟨rfl, hK1.trans hK2⟩

set_option maxHeartbeats 800000 in
theorem rlater_any (a : Int) (ao : Option Addr) (n c : Nat) (L : List Int) (w : World) (ha : I64 a) (hI : IntsAt w ao L) (hn : L.length = n) (hb : n ≤ 1000000) :
    Calls Try.prog 16 #[.int .i64 a, .slice ao n c] w fun e w' => e = .returned (.int .i64 (laterI a L)) ∧ Keep [] w w' := by
  have hx := upZ_i64 ha
  obtain ⟨x, ex⟩ : ∃ x, upZ a = x := ⟨_, rfl⟩
  rw [ex] at hx
  have HX := (show Hid (upZ a = x) from ex)
  have HI := (show Hid (0 < n → ∃ b off, ao = some ⟨b, off, none⟩ ∧ b < w.heap.size ∧ ∀ i, i < n → w.cell? ⟨b, off + i, none⟩ = some (.int .i64 (L[i]?.getD 0))) from fun h => by rw [← hn] at h ⊢; exact hI.cells h)
  have HB := (show Hid (∀ i : Nat, I64 (L[i]?.getD 0)) from fun i => ⟨hI.low i, hI.high i⟩)
  have HN := (show Hid (L.length = n) from hn)
  have hax : (a ≤ 0 ∧ x = 0) ∨ (0 < a ∧ a = x) := by rw [← ex]; unfold upZ; split <;> omega
  obtain ⟨a1, a2⟩ := ha
  clear hI hn ex
  rcases hax with ⟨h0, rfl⟩ | ⟨h0, rfl⟩
  · go_enter Try.func16, Try.ntmps16
    go_wp2_with fail
    go_loopw [5, 6] (fun s i wr => ∃ (j : Nat) (z : Int), s = .int .i64 z ∧ i = .int .i64 j ∧ j ≤ n ∧ 0 ≤ z ∧ z ≤ 9223372036854775807 ∧ Hid (upZ a + sumU (L.take j) = z) ∧ Keep [] w wr) (fun _ i _ => n - (intOf i).toNat)
    case atStart => exact ⟨0, 0, rfl, rfl, by omega, by omega, by omega, show upZ a + sumU (L.take 0) = 0 from by rw [HX.out]; exact Int.add_zero _, Keep.refl _ _⟩
    case round =>
      obtain ⟨j, z, rfl, rfl, hj, hz1, hz2, HZ, hK⟩ := hrel
      by_cases hlt : j < n
      · obtain ⟨b, off, rfl, hbs, hcell⟩ := HI.out (by omega)
        obtain ⟨y, hy⟩ : ∃ y, L[j]?.getD 0 = y := ⟨_, rfl⟩
        have hc := (hK.cell hbs (by simp) (off + j)).trans (hcell j hlt)
        have HY := HB.out j
        rw [hy] at hc HY
        obtain ⟨y1, y2⟩ := HY
        have HT := (show Hid (sumU (L.take (j + 1)) = sumU (L.take j) + upZ y) from by
          show _ = _
          rw [sumU_snoc L j (by rw [HN.out]; exact hlt), hy])
        clear hcell hy
        by_cases hy0 : 0 < y
        · have HU := (show Hid (upZ y = y) from upZ_pos y (by omega))
          have HS := (show Hid (upZ a + sumU (L.take (j + 1)) = z + y) by
            show _ = _
            rw [HT.out, HU.out]
            have := HZ.out
            omega)
          by_cases hov : 9223372036854775807 - z < y
          · have HF := (show Hid (laterI a L = 9223372036854775807) from later_over a L (j + 1) (by rw [HS.out]; omega))
            go_wp2_with fail
            go_ret
            exact ⟨by rw [HF.out]; rfl, hK⟩
          · go_wp2_with fail
            go_roundw
            case rel => exact ⟨j + 1, z + y, by go_num, by go_num, by omega, by omega, by omega, HS, hK⟩
            case measure => simp [intOf]; omega
        · have HS := (show Hid (upZ a + sumU (L.take (j + 1)) = z) by
            have e := upZ_of y
            show _ = _
            rw [HT.out, show upZ y = 0 by omega]
            have := HZ.out
            omega)
          go_wp2_with fail
          go_roundw
          case rel => exact ⟨j + 1, z, by go_num, by go_num, by omega, by omega, by omega, HS, hK⟩
          case measure => simp [intOf]; omega
      · obtain rfl : j = n := by omega
        have HS := (show Hid (laterI a L = z) by
          show _ = _
          have e := HZ.out
          rw [List.take_of_length_le (by rw [HN.out]; omega)] at e
          unfold laterI
          rw [e, capM_le _ hz2])
        go_wp2_with fail
        go_ret
        exact ⟨by rw [HS.out]; rfl, hK⟩
  · go_enter Try.func16, Try.ntmps16
    go_wp2_with fail
    go_loopw [5, 6] (fun s i wr => ∃ (j : Nat) (z : Int), s = .int .i64 z ∧ i = .int .i64 j ∧ j ≤ n ∧ 0 ≤ z ∧ z ≤ 9223372036854775807 ∧ Hid (upZ a + sumU (L.take j) = z) ∧ Keep [] w wr) (fun _ i _ => n - (intOf i).toNat)
    case atStart => exact ⟨0, a, rfl, rfl, by omega, by omega, by omega, show upZ a + sumU (L.take 0) = a from by rw [HX.out]; exact Int.add_zero _, Keep.refl _ _⟩
    case round =>
      obtain ⟨j, z, rfl, rfl, hj, hz1, hz2, HZ, hK⟩ := hrel
      by_cases hlt : j < n
      · obtain ⟨b, off, rfl, hbs, hcell⟩ := HI.out (by omega)
        obtain ⟨y, hy⟩ : ∃ y, L[j]?.getD 0 = y := ⟨_, rfl⟩
        have hc := (hK.cell hbs (by simp) (off + j)).trans (hcell j hlt)
        have HY := HB.out j
        rw [hy] at hc HY
        obtain ⟨y1, y2⟩ := HY
        have HT := (show Hid (sumU (L.take (j + 1)) = sumU (L.take j) + upZ y) from by
          show _ = _
          rw [sumU_snoc L j (by rw [HN.out]; exact hlt), hy])
        clear hcell hy
        by_cases hy0 : 0 < y
        · have HU := (show Hid (upZ y = y) from upZ_pos y (by omega))
          have HS := (show Hid (upZ a + sumU (L.take (j + 1)) = z + y) by
            show _ = _
            rw [HT.out, HU.out]
            have := HZ.out
            omega)
          by_cases hov : 9223372036854775807 - z < y
          · have HF := (show Hid (laterI a L = 9223372036854775807) from later_over a L (j + 1) (by rw [HS.out]; omega))
            go_wp2_with fail
            go_ret
            exact ⟨by rw [HF.out]; rfl, hK⟩
          · go_wp2_with fail
            go_roundw
            case rel => exact ⟨j + 1, z + y, by go_num, by go_num, by omega, by omega, by omega, HS, hK⟩
            case measure => simp [intOf]; omega
        · have HS := (show Hid (upZ a + sumU (L.take (j + 1)) = z) by
            have e := upZ_of y
            show _ = _
            rw [HT.out, show upZ y = 0 by omega]
            have := HZ.out
            omega)
          go_wp2_with fail
          go_roundw
          case rel => exact ⟨j + 1, z, by go_num, by go_num, by omega, by omega, by omega, HS, hK⟩
          case measure => simp [intOf]; omega
      · obtain rfl : j = n := by omega
        have HS := (show Hid (laterI a L = z) by
          show _ = _
          have e := HZ.out
          rw [List.take_of_length_le (by rw [HN.out]; omega)] at e
          unfold laterI
          rw [e, capM_le _ hz2])
        go_wp2_with fail
        go_ret
        exact ⟨by rw [HS.out]; rfl, hK⟩


theorem awake_limit : limitI 9223372036854775807 2 = 9223372036854775807 := by decide
theorem awake_idle : idleI 7 3 = 4 := by decide
theorem awake_keep : decide (idleI 9 0 ≤ limitI 4 2) = false := by decide

set_option maxHeartbeats 800000 in
theorem awake14_any (w : World) :
    Calls Try.prog 8 #[] w fun e w' => e = .returned (.bool true) ∧ Keep [] w w' := by
  go_enter Try.func8, Try.ntmps8
  go_wp2_with (first | (go_at_call 11; refine (limit_any _ _ ⟨by omega, by omega⟩ ⟨by omega, by omega⟩ _).mono ?_; rw [awake_limit]; rintro e w1 ⟨rfl, hK1⟩) | (go_at_call 9; refine (idle_any _ _ ⟨by omega, by omega⟩ ⟨by omega, by omega⟩ _).mono ?_; rw [awake_idle]; rintro e w2 ⟨rfl, hK2⟩) | (go_at_call 13; refine (keep_any _ _ _ _ ⟨by omega, by omega⟩ ⟨by omega, by omega⟩ ⟨by omega, by omega⟩ ⟨by omega, by omega⟩ _).mono ?_; rw [awake_keep]; rintro e w3 ⟨rfl, hK3⟩))
  go_ret
  exact ⟨rfl, (hK1.trans hK2).trans hK3⟩

end Go.Proofs.Ytlpdaekejfhmjaa
