/-
  SpaceFinds answers true, whatever it is given.
-/
import Derived.Test.YtpollfcblpaicabRefuses6
namespace Go.Proofs.Ytpollfcblpaicab
open Go.RowKit

/-- A page none of whose words finds a block is not taken. -/
theorem WF.page_free {kd : List PK} (h : WF kd) {p : Nat} (hp : p ≠ 0) (hn : ∀ x, x / 64 = p → findN kd x = none) : kat kd p = .free := by
  cases hk : kat kd p with
  | zero => exact absurd (h.only p hk) hp
  | free => rfl
  | small c xs =>
    obtain ⟨hc, hl, i, hi⟩ := h.small p c xs hk
    have hil : i < xs.length := by
      rcases Nat.lt_or_ge i xs.length with h1 | h1
      · exact h1
      · rw [List.getElem?_eq_none h1] at hi; cases hi
    have e1 : (64 * p + i * sz c) / 64 = p ∧ (64 * p + i * sz c) % 64 / sz c = i := by
      rw [hl] at hil
      rcases sz_cases c hc with ⟨e, f⟩ | ⟨e, f⟩ | ⟨e, f⟩ | ⟨e, f⟩ | ⟨e, f⟩ <;> rw [e] <;> rw [f] at hil <;> omega
    have := hn (64 * p + i * sz c) e1.1
    rw [find_small kd _ c xs (by rw [e1.1]; exact hk), e1.2, if_pos hi] at this
    cases this
  | part j k =>
    have := hn (64 * p) (by omega)
    rw [find_part kd _ j k (by rw [show 64 * p / 64 = p by omega]; exact hk)] at this
    cases this
/-- Where so many pages side by side are not taken there is room. -/
theorem alloc_room {kd : List PK} {n : Int} {s : Nat} (hn : 1 ≤ n ∧ n ≤ 1024) (hk : ∀ k : Nat, pagesI n = k → ∀ t, s ≤ t → t < s + k → kat kd t = .free) (h1 : kat kd s = .free) (hl : s + 16 ≤ kd.length) : ∃ a kd', AllocR kd n (some (a, kd')) := by
  obtain ⟨r, hr⟩ := alloc_ex kd n (by have := block_ge n hn.1 hn.2; omega)
  cases r with
  | some o => obtain ⟨a, kd'⟩ := o; exact ⟨a, kd', hr⟩
  | none =>
    exfalso
    have no : ∀ k, 1 ≤ k → k ≤ 16 → runR (takenL kd) 0 k = -1 → (∀ t, s ≤ t → t < s + k → kat kd t = .free) → False := by
      intro k k1 k2 e hf
      rcases runR_spec (takenL kd) k k1 _ 0 rfl with ⟨_, h⟩ | ⟨j, h, _⟩
      · exact h s (by omega) ⟨by rw [takenL_length]; omega, fun t a b => by rw [takenL_get, hf t a b]; rfl⟩
      · rw [e] at h; omega
    cases hr with
    | full c e1 e2 e3 => exact no 1 (by omega) (by omega) e3 (fun t a b => by rw [show t = s by omega]; exact h1)
    | over k e1 e2 e3 e4 => exact no k e3 (by have := (pages_le n).2; omega) e4 (hk k e2)

theorem finds_facts (n m : Int) (hn : 1 ≤ n ∧ n ≤ 300) (hm : 1 ≤ m ∧ m ≤ 300) (sa sc : Nat) (hsa : blockI n = sa) (hsc : blockI m = sc) : ∃ (k1 k2 : List PK) (y : Nat), AllocR (freshK 30) n (some (64, k1)) ∧ AllocR k1 m (some (y, k2)) ∧ 64 ≤ y ∧ y + sc ≤ 1920 ∧ (y + sc ≤ 64 ∨ 64 + sa ≤ y) ∧
    ∀ x, findN k2 x = if y ≤ x ∧ x < y + sc then some (y, sc) else if 64 ≤ x ∧ x < 64 + sa then some (64, sa) else none := by
  have hw0 := freshK_wf 30 (by omega) (by omega)
  have g1 := block_ge n (by omega) (by omega)
  have g2 := block_ge m (by omega) (by omega)
  have g3 : blockI n ≤ 320 := by
    rcases class_lt n with hc | ⟨c, hc, hc5⟩
    · have := class_iff n
      rw [block_none n hc, pages_mid n (by omega) (by omega)]; omega
    · rw [block_class n c hc]; have := (sizes_le c).2; omega
  obtain ⟨k1, r1⟩ := fresh_alloc 30 sa n hsa (by omega) (by omega) (by omega)
  obtain ⟨b', hb', _, hw1, hl1, _, _, _, hf⟩ := r1.spec hw0
  obtain rfl : sa = b' := by rw [hsa] at hb'; omega
  rw [freshK_length] at hl1
  have hf1 : ∀ x, findN k1 x = if 64 ≤ x ∧ x < 64 + sa then some (64, sa) else none := fun x => by rw [hf x, freshK_find 30 x (by omega)]
  have hfree : ∀ t, 10 ≤ t → kat k1 t = .free := fun t ht => hw1.page_free (by omega) (fun x hx => by rw [hf1, if_neg (by omega)])
  obtain ⟨y, k2, r2⟩ := alloc_room (kd := k1) (n := m) (s := 10) (by omega) (fun k _ t a _ => hfree t a) (hfree 10 (by omega)) (by omega)
  obtain ⟨b', hb', _, hw2, hl2, q1, q2, q3, hf2⟩ := r2.spec hw1
  obtain rfl : sc = b' := by rw [hsc] at hb'; omega
  refine ⟨k1, k2, y, r1, r2, q1, by omega, ?_, fun x => by rw [hf2, hf1]⟩
  rcases Nat.lt_or_ge y (64 + sa) with e | e
  · have := q3 y (by omega) (by omega)
    rw [hf1, if_pos (by omega)] at this
    cases this
  · exact .inr e

theorem mod3 (a m : Nat) (h : 1 ≤ m) : ∃ x : Nat, (a : Int) % m = x ∧ (a : Int).tmod m = x ∧ x < m :=
  ⟨a % m, rfl, by rw [Int.tmod_eq_emod_of_nonneg (by omega)]; rfl, Nat.mod_lt _ (by omega)⟩

set_option maxRecDepth 100000 in
set_option maxHeartbeats 8000000 in
theorem finds6_any (n m : Nat) (w : World) (hn : n < 65536) (hm : m < 65536) :
    Calls Try.prog 4 #[.int .u16 n, .int .u16 m] w fun e w' => e = .returned (.bool true) ∧ Keep [] w w' := by
  obtain ⟨x1, x11, x12, x13⟩ := mod3 n 300 (by omega)
  obtain ⟨x2, x21, x22, x23⟩ := mod3 m 300 (by omega)
  have x11' : (n : Int) % 300 = x1 := x11
  have x12' : (n : Int).tmod 300 = x1 := x12
  have x21' : (m : Int) % 300 = x2 := x21
  have x22' : (m : Int).tmod 300 = x2 := x22
  obtain ⟨a, ha⟩ : ∃ a : Int, (1 : Int) + x1 = a := ⟨_, rfl⟩
  obtain ⟨b, hb⟩ : ∃ b : Int, (1 : Int) + x2 = b := ⟨_, rfl⟩
  have ab1 : 1 ≤ a ∧ a ≤ 300 ∧ 1 ≤ b ∧ b ≤ 300 := by omega
  obtain ⟨sa, hsa⟩ := Int.eq_ofNat_of_zero_le (block_le a).1
  obtain ⟨sc, hsc⟩ := Int.eq_ofNat_of_zero_le (block_le b).1
  have ga := block_ge a (by omega) (by omega)
  have gc := block_ge b (by omega) (by omega)
  have qa := (block_le a).2
  have qb := (block_le b).2
  rw [hsa] at ga qa
  rw [hsc] at gc qb
  obtain ⟨k1, k2, y, r1, r2, y1, y2, y3, hf⟩ := finds_facts a b (by omega) (by omega) sa sc hsa hsc
  have hy3 : 64 + sa ≤ y := by omega
  have HF := (show Hid (AllocR (freshK 30) a (some (64, k1)) ∧ AllocR k1 b (some (y, k2))) from ⟨r1, r2⟩)
  have HB := (show Hid (blockI a = (sa : Nat) ∧ blockI b = (sc : Nat)) from ⟨hsa, hsc⟩)
  have HA := (show Hid (∀ i : Int, 64 ≤ i → i < 64 + sa → foundV (findI k2 i) = .tuple #[.int .i64 64, .int .i64 sa, .bool true]) from fun i h1 h2 => by
    have : findI k2 i = some (64, sa) := by unfold findI; rw [if_neg (by omega), hf, if_neg (by omega), if_pos (by omega)]
    rw [this]; rfl)
  have HC := (show Hid (∀ i : Int, y ≤ i → i < y + sc → foundV (findI k2 i) = .tuple #[.int .i64 y, .int .i64 sc, .bool true]) from fun i h1 h2 => by
    have : findI k2 i = some (y, sc) := by unfold findI; rw [if_neg (by omega), hf, if_pos (by omega)]
    rw [this]; rfl)
  have HN := (show Hid (∀ i : Int, (i < 64 ∨ 64 + sa ≤ i ∧ i < y ∨ y + sc ≤ i) → foundV (findI k2 i) = .tuple #[.int .i64 0, .int .i64 0, .bool false]) from fun i h => by
    have : findI k2 i = none := by
      unfold findI
      split
      · rfl
      · rw [hf, if_neg (by omega), if_neg (by omega)]
    rw [this]; rfl)
  have hcA := HA.out 64 (by omega) (by omega)
  have hcC := HC.out y (by omega) (by omega)
  have HC0 := (show Hid (foundV (findI k2 64) = .tuple #[.int .i64 64, .int .i64 sa, .bool true]) from hcA)
  have HC1 := (show Hid (foundV (findI k2 y) = .tuple #[.int .i64 y, .int .i64 sc, .bool true]) from hcC)
  clear r1 r2 hf hsa hsc x11 x12 x21 x22 hcA hcC y3
  go_enter Try.func4, Try.ntmps4
  go_wp2_with fail
  refine (hnew 30 w w (Keep.refl _ _) (by omega) (by omega)).mono ?_
  rintro e w1 ⟨sb, rfl, hH⟩
  obtain ⟨ab, hc0⟩ := hH.c0
  obtain ⟨pb, hc1⟩ := hH.c1
  go_wp2_with (go_at_call 6; refine (err_any _ _).mono ?_; rintro e w' ⟨rfl, rfl⟩)
  refine (halloc_yes sb 64 sa a _ _ _ w1 hH HF.out.1 HB.out.1).mono ?_
  rintro e w2 ⟨rfl, hH2⟩
  clear hc0 hc1 hH
  go_wp2_with (go_at_call 6; refine (err_any _ _).mono ?_; rintro e w' ⟨rfl, rfl⟩)
  refine (halloc_yes sb y sc b _ _ _ w2 hH2 HF.out.2 HB.out.2).mono ?_
  rintro e w3 ⟨rfl, hH3⟩
  clear hH2
  go_wp2_with (go_at_call 6; refine (err_any _ _).mono ?_; rintro e w' ⟨rfl, rfl⟩)
  refine (hfind sb 64 _ _ w3 hH3).mono ?_
  rw [HC0.out]
  rintro e w4 ⟨rfl, hH4⟩
  clear hH3
  go_wp2_with (go_at_call 6; refine (err_any _ _).mono ?_; rintro e w' ⟨rfl, rfl⟩)
  refine (hfind sb y _ _ w4 hH4).mono ?_
  rw [HC1.out]
  rintro e w5 ⟨rfl, hH5⟩
  clear hH4
  generalize fill0 (fill0 (zeros (64 * 30)) 64 sa) y sc = ws at *
  go_wp2_with fail
  go_loopw [17] (fun i wr => ∃ j : Int, i = .int .i64 j ∧ -1 ≤ j ∧ j ≤ 1921 ∧ Held w wr sb ws k2) (fun i _ => (1921 - intOf i).toNat)
  case atStart => exact ⟨-1, rfl, by omega, by omega, hH5⟩
  case round =>
    obtain ⟨j, rfl, hj1, hj2, hH6⟩ := hrel
    obtain ⟨w6, rfl⟩ : ∃ w6, w6 = wr := ⟨_, rfl⟩
    clear hH5
    rcases (show j = 1921 ∨ j < 64 ∨ 64 ≤ j ∧ j < 64 + sa ∧ j < 1921 ∨ 64 + sa ≤ j ∧ j < y ∧ j < 1921 ∨ y ≤ j ∧ j < y + sc ∧ j < 1921 ∨ y + sc ≤ j ∧ j < 1921 by omega) with rfl | o | o | o | o | o
    · go_wp2_with (go_at_call 11; refine (awake6_any _).mono ?_; rintro e w9 ⟨rfl, hK9⟩)
      go_ret
      exact ⟨rfl, hH6.K.trans hK9⟩
    · have HV := (show Hid (foundV (findI k2 j) = .tuple #[.int .i64 0, .int .i64 0, .bool false]) from HN.out j (by omega))
      go_wp2_with (go_at_call 9; refine (hfind sb j ws k2 w6 hH6).mono ?_; rw [HV.out]; rintro e w7 ⟨rfl, hH7⟩)
      go_roundw
      case rel => exact ⟨j + 1, by go_num, by omega, by omega, hH7⟩
      case measure => simp [intOf]; omega
    · have HV := (show Hid (foundV (findI k2 j) = .tuple #[.int .i64 64, .int .i64 sa, .bool true]) from HA.out j (by omega) (by omega))
      go_wp2_with (go_at_call 9; refine (hfind sb j ws k2 w6 hH6).mono ?_; rw [HV.out]; rintro e w7 ⟨rfl, hH7⟩)
      go_roundw
      case rel => exact ⟨j + 1, by go_num, by omega, by omega, hH7⟩
      case measure => simp [intOf]; omega
    · have HV := (show Hid (foundV (findI k2 j) = .tuple #[.int .i64 0, .int .i64 0, .bool false]) from HN.out j (by omega))
      go_wp2_with (go_at_call 9; refine (hfind sb j ws k2 w6 hH6).mono ?_; rw [HV.out]; rintro e w7 ⟨rfl, hH7⟩)
      go_roundw
      case rel => exact ⟨j + 1, by go_num, by omega, by omega, hH7⟩
      case measure => simp [intOf]; omega
    · have HV := (show Hid (foundV (findI k2 j) = .tuple #[.int .i64 y, .int .i64 sc, .bool true]) from HC.out j (by omega) (by omega))
      go_wp2_with (go_at_call 9; refine (hfind sb j ws k2 w6 hH6).mono ?_; rw [HV.out]; rintro e w7 ⟨rfl, hH7⟩)
      go_roundw
      case rel => exact ⟨j + 1, by go_num, by omega, by omega, hH7⟩
      case measure => simp [intOf]; omega
    · have HV := (show Hid (foundV (findI k2 j) = .tuple #[.int .i64 0, .int .i64 0, .bool false]) from HN.out j (by omega))
      go_wp2_with (go_at_call 9; refine (hfind sb j ws k2 w6 hH6).mono ?_; rw [HV.out]; rintro e w7 ⟨rfl, hH7⟩)
      go_roundw
      case rel => exact ⟨j + 1, by go_num, by omega, by omega, hH7⟩
      case measure => simp [intOf]; omega

end Go.Proofs.Ytpollfcblpaicab

namespace Go.Proofs.Ytpollfcblpaicab.spaceFinds
open Go.RowKit
theorem walk (a0 a1 : Int) (w0 : (Lit.int .u16 a0).wf = true) (w1 : (Lit.int .u16 a1).wf = true) (w : World) :
    Calls Try.prog 4 #[.int .u16 a0, .int .u16 a1] w fun e w' => e = .returned (.bool true) ∧ Keep [] w w' := by
  have h0 := bounds_u16 w0
  have h1 := bounds_u16 w1
  obtain ⟨a, rfl⟩ := Int.eq_ofNat_of_zero_le h0.1
  obtain ⟨b, rfl⟩ := Int.eq_ofNat_of_zero_le h1.1
  exact finds6_any a b w (by omega) (by omega)
end Go.Proofs.Ytpollfcblpaicab.spaceFinds
