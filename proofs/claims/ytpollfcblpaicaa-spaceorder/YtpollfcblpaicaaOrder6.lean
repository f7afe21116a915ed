/-
  SpaceOrder answers true, whatever it is given.
-/
import Derived.Test.YtpollfcblpaicaaSpaceHeld
import Derived.ProofKit
import Derived.OpenShut
namespace Go.Proofs.Ytpollfcblpaicaa
open Go.RowKit

/-- The first i of m are so. -/
def upTo (m i : Nat) : List Bool := putR (offs m) 0 i true
theorem upTo_length (m i : Nat) : (upTo m i).length = m := by unfold upTo; rw [putR_length, offs_length]
theorem upTo_get (m i t : Nat) (h : i ≤ m) : (upTo m i)[t]?.getD false = decide (t < i) := by
  unfold upTo
  rw [putR_get _ _ _ _ (by rw [offs_length]; omega), offs_get]
  by_cases e : t < i
  · rw [if_pos (by omega)]; simp [e]
  · rw [if_neg (by omega)]; simp [e]
theorem upTo_succ (m i : Nat) : (upTo m i).set i true = upTo m (i + 1) := by
  unfold upTo; rw [putR_succ, Nat.zero_add]
theorem upTo_next (m i : Nat) (h : i < m) : nextR (upTo m i) 0 false = i :=
  nextR_is _ _ _ _ (by omega) (by rw [upTo_length]; exact h) (by rw [upTo_get _ _ _ (by omega)]; simp) (fun t _ b => by rw [upTo_get _ _ _ (by omega)]; simp [b])
theorem upTo_none (m : Nat) : nextR (upTo m m) 0 false = -1 :=
  nextR_none _ _ _ (fun t _ b => by rw [upTo_length] at b; rw [upTo_get _ _ _ (by omega)]; simp [b])
theorem upTo_all (m : Nat) : allB (upTo m m) = true := by unfold allB; rw [upTo_none]; rfl
theorem upTo_some (m i : Nat) (h : i < m) : allB (upTo m i) = false := by unfold allB; rw [upTo_next m i h]; simp
theorem runAt {kd : List PK} {s k : Nat} (hk : 1 ≤ k) (h1 : s + k ≤ kd.length) (h2 : ∀ t, s ≤ t → t < s + k → kat kd t = .free) (h3 : ∀ t, t < s → ∃ u, t ≤ u ∧ u < t + k ∧ (kat kd u).taken = true) : runR (takenL kd) 0 k = s := by
  refine runR_is _ 0 k s hk (by omega) ⟨by rw [takenL_length]; exact h1, fun t a b => by rw [takenL_get, h2 t a b]; rfl⟩ (fun t _ ht hc => ?_)
  obtain ⟨u, a, b, c⟩ := h3 t ht
  have := hc.2 u a b
  rw [takenL_get, c] at this; cases this

/-- Behind page 1 lie i blocks of class c, page by page. -/
structure Ord (kd : List PK) (c i : Nat) : Prop where
  len : kd.length = 20
  zero : kat kd 0 = .zero
  one : (kat kd 1).taken = true ∧ (kat kd 1).has c = false
  full : ∀ t, 2 ≤ t → t < 2 + i / roomOf c → kat kd t = .small c (upTo (roomOf c) (roomOf c))
  part : 0 < i % roomOf c → kat kd (2 + i / roomOf c) = .small c (upTo (roomOf c) (i % roomOf c))
  free : ∀ t, 2 + i / roomOf c < t ∨ i % roomOf c = 0 ∧ 2 + i / roomOf c = t → kat kd t = .free
theorem room_step (c i : Nat) (hc : c < 5) : (i % roomOf c + 1 < roomOf c ∧ (i + 1) / roomOf c = i / roomOf c ∧ (i + 1) % roomOf c = i % roomOf c + 1) ∨ (i % roomOf c + 1 = roomOf c ∧ (i + 1) / roomOf c = i / roomOf c + 1 ∧ (i + 1) % roomOf c = 0) := by
  rcases sz_cases c hc with ⟨_, f⟩ | ⟨_, f⟩ | ⟨_, f⟩ | ⟨_, f⟩ | ⟨_, f⟩ <;> rw [f] <;> omega
theorem room_lt (c i : Nat) (hc : c < 5) (h : i < 3 * roomOf c) : i / roomOf c < 3 ∧ i % roomOf c < roomOf c ∧ 2 ≤ roomOf c := by
  rcases sz_cases c hc with ⟨_, f⟩ | ⟨_, f⟩ | ⟨_, f⟩ | ⟨_, f⟩ | ⟨_, f⟩ <;> rw [f] at h ⊢ <;> omega
theorem Ord.step {kd : List PK} {c i : Nat} {n : Int} (h : Ord kd c i) (hc : c < 5) (hn : classI n = c) (hi : i < 3 * roomOf c) :
    ∃ kd', AllocR kd n (some (128 + 64 * (i / roomOf c) + sz c * (i % roomOf c), kd')) ∧ Ord kd' c (i + 1) := by
  obtain ⟨b1, b2, b3⟩ := room_lt c i hc hi
  have stp := room_step c i hc
  have hsmall : ∀ t, t < 2 + i / roomOf c → (kat kd t).has c = false := by
    intro t ht
    rcases (show t = 0 ∨ t = 1 ∨ 2 ≤ t by omega) with rfl | rfl | h2
    · rw [h.zero]; rfl
    · exact h.one.2
    · rw [h.full t h2 ht]; simp [PK.has, upTo_all]
  have hset : Ord (kd.set (2 + i / roomOf c) (.small c (upTo (roomOf c) (i % roomOf c + 1)))) c (i + 1) := by
    have hp : 2 + i / roomOf c < kd.length := by rw [h.len]; omega
    have n0 : 0 ≠ 2 + i / roomOf c := by generalize i / roomOf c = q; omega
    have n1 : 1 ≠ 2 + i / roomOf c := by generalize i / roomOf c = q; omega
    refine ⟨by rw [List.length_set]; exact h.len, by rw [kat_set_other kd (2 + i / roomOf c) 0 _ n0]; exact h.zero, by rw [kat_set_other kd (2 + i / roomOf c) 1 _ n1]; exact h.one, fun t a b => ?_, fun a => ?_, fun t a => ?_⟩
    · rw [kat_set _ _ _ _ hp]
      split
      · rename_i e
        rcases stp with ⟨s1, s2, s3⟩ | ⟨s1, s2, s3⟩
        · omega
        · rw [s1]
      · exact h.full t a (by omega)
    · rcases stp with ⟨s1, s2, s3⟩ | ⟨s1, s2, s3⟩
      · rw [s2, s3, kat_set_same _ _ _ hp]
      · omega
    · rw [kat_set_other kd (2 + i / roomOf c) t _ (by omega)]
      exact h.free t (by omega)
  by_cases hr : i % roomOf c = 0
  · have hnone : nextR (hasL c kd) 0 true = -1 := nextR_none _ _ _ (fun t _ _ => by
      rw [hasL_get]
      by_cases e : t < 2 + i / roomOf c
      · rw [hsmall t e]; simp
      · rw [h.free t (by omega)]; simp [PK.has])
    have hrun : runR (takenL kd) 0 1 = ((2 + i / roomOf c : Nat) : Int) := runAt (by omega) (by rw [h.len]; omega) (fun t a b => h.free t (by omega)) (fun t ht => ⟨t, by omega, by omega, by
      rcases (show t = 0 ∨ t = 1 ∨ 2 ≤ t by omega) with rfl | rfl | h2
      · rw [h.zero]; rfl
      · exact h.one.1
      · rw [h.full t h2 ht]; rfl⟩)
    have r := AllocR.new (kd := kd) c _ hn hnone hrun
    refine ⟨_, ?_, hset⟩
    have e1 : (offs (roomOf c)).set 0 true = upTo (roomOf c) (i % roomOf c + 1) := by
      rw [hr, ← upTo_succ]; rfl
    have e2 : 64 * (2 + i / roomOf c) = 128 + 64 * (i / roomOf c) + sz c * (i % roomOf c) := by rw [hr]; omega
    rw [e1, e2] at r
    exact r
  · have hpart := h.part (by omega)
    have hnext : nextR (hasL c kd) 0 true = ((2 + i / roomOf c : Nat) : Int) := nextR_is _ _ _ _ (Nat.zero_le _) (by rw [hasL_length, h.len]; omega) (by rw [hasL_get, hpart]; simp [PK.has, upTo_some _ _ b2]) (fun t _ ht => by rw [hasL_get, hsmall t ht]; simp)
    have r := AllocR.old (kd := kd) c _ (i % roomOf c) _ hn hnext hpart (upTo_next _ _ b2) (by rw [upTo_length]; exact b2)
    refine ⟨_, ?_, hset⟩
    have e2 : 64 * (2 + i / roomOf c) + i % roomOf c * sz c = 128 + 64 * (i / roomOf c) + sz c * (i % roomOf c) := by rw [Nat.mul_comm (i % roomOf c)]; omega
    rw [upTo_succ, e2] at r
    exact r
theorem Ord.start (c : Nat) (x : PK) (hx : x.taken = true) (hc : x.has c = false) : Ord ((freshK 20).set 1 x) c 0 := by
  have hl : 1 < (freshK 20).length := by rw [freshK_length]; omega
  refine ⟨by rw [List.length_set, freshK_length], by rw [kat_set_other (freshK 20) 1 0 _ (by decide), freshK_at _ _ (by omega)]; rfl, by rw [kat_set_same _ _ _ hl]; exact ⟨hx, hc⟩, fun t a b => by simp at b; omega, fun a => by simp at a, fun t a => ?_⟩
  simp at a
  rw [kat_set_other (freshK 20) 1 t _ (by omega), freshK_at _ _ (by omega), if_neg (by omega)]

theorem order_first (c : Nat) : ∃ kd, AllocR (freshK 20) (if c = 0 then 3 else 64) (some (64, kd)) ∧ Ord kd c 0 := by
  by_cases h : c = 0
  · rw [if_pos h]
    refine ⟨_, fresh_small 20 1 3 (by omega) (by decide +kernel), Ord.start c _ rfl ?_⟩
    simp [PK.has, h]
  · rw [if_neg h]
    refine ⟨_, fresh_large 20 1 64 (by omega) (by omega) (by decide +kernel) (by decide +kernel), ?_⟩
    have e : putParts (freshK 20) 1 1 = (freshK 20).set 1 (.part 0 1) := by
      refine kat_ext (by rw [putParts_length, List.length_set]) (fun p => ?_)
      rw [putParts_at _ _ _ _ (by rw [freshK_length]; omega), kat_set _ _ _ _ (by rw [freshK_length]; omega)]
      by_cases e : p = 1
      · subst e; rfl
      · rw [if_neg (by omega), if_neg e]
    rw [e]
    exact Ord.start c _ rfl rfl
theorem class_words (n : Int) (h : 1 ≤ n ∧ n ≤ 32) : ∃ c : Nat, classI n = c ∧ c < 5 ∧ n ≤ sz c ∧ ∀ j, j < c → (sz j : Int) < n := by
  rcases (show n ≤ 2 ∨ 2 < n ∧ n ≤ 4 ∨ 4 < n ∧ n ≤ 8 ∨ 8 < n ∧ n ≤ 16 ∨ 16 < n by omega) with e | e | e | e | e
  · exact ⟨0, by unfold classI; rw [if_neg (by omega), if_pos e]; rfl, by omega, e, fun j hj => by omega⟩
  · refine ⟨1, by unfold classI; rw [if_neg (by omega), if_neg (by omega), if_pos e.2]; rfl, by omega, e.2, fun j hj => ?_⟩
    obtain rfl : j = 0 := by omega
    exact e.1
  · refine ⟨2, by unfold classI; rw [if_neg (by omega), if_neg (by omega), if_neg (by omega), if_pos e.2]; rfl, by omega, e.2, fun j hj => ?_⟩
    rcases (show j = 0 ∨ j = 1 by omega) with rfl | rfl
    · show (2 : Int) < n; omega
    · exact e.1
  · refine ⟨3, by unfold classI; rw [if_neg (by omega), if_neg (by omega), if_neg (by omega), if_neg (by omega), if_pos e.2]; rfl, by omega, e.2, fun j hj => ?_⟩
    rcases (show j = 0 ∨ j = 1 ∨ j = 2 by omega) with rfl | rfl | rfl
    · show (2 : Int) < n; omega
    · show (4 : Int) < n; omega
    · exact e.1
  · refine ⟨4, by unfold classI; rw [if_neg (by omega), if_neg (by omega), if_neg (by omega), if_neg (by omega), if_neg (by omega), if_pos (by omega)]; rfl, by omega, h.2, fun j hj => ?_⟩
    rcases (show j = 0 ∨ j = 1 ∨ j = 2 ∨ j = 3 by omega) with rfl | rfl | rfl | rfl
    · show (2 : Int) < n; omega
    · show (4 : Int) < n; omega
    · show (8 : Int) < n; omega
    · exact e
theorem modFacts (a m : Nat) (h : 1 ≤ m) : ∃ x : Nat, (a : Int) % m = x ∧ (a : Int).tmod m = x ∧ x < m :=
  ⟨a % m, rfl, by rw [Int.tmod_eq_emod_of_nonneg (by omega)]; rfl, Nat.mod_lt _ (by omega)⟩

set_option maxRecDepth 100000 in
set_option maxHeartbeats 4000000 in
theorem order6_any (n many : Nat) (w : World) (hn : n < 256) (hmany : many < 256) :
    Calls Try.prog 6 #[.int .u8 n, .int .u8 many] w fun e w' => e = .returned (.bool true) ∧ Keep [] w w' := by
  obtain ⟨x1, x11, x12, x13⟩ := modFacts n 32 (by omega)
  have x11' : (n : Int) % 32 = x1 := x11
  have x12' : (n : Int).tmod 32 = x1 := x12
  obtain ⟨wd, hwd⟩ : ∃ wd : Int, (1 : Int) + x1 = wd := ⟨_, rfl⟩
  have wb : 1 ≤ wd ∧ wd ≤ 32 := by omega
  obtain ⟨c, hc, hc5, hcw, hcj⟩ := class_words wd wb
  obtain ⟨z1, z2, z3, z4, z5, z6, z7⟩ := sz_facts c hc5
  obtain ⟨s, hs⟩ : ∃ s, sz c = s := ⟨_, rfl⟩
  obtain ⟨m, hm⟩ : ∃ m, roomOf c = m := ⟨_, rfl⟩
  have hb : blockI wd = (s : Nat) := by rw [block_class wd c hc, ← hs]; exact z1
  have HB := (show Hid (blockI wd = (s : Nat)) from hb)
  rw [hs] at z1 z2 z3 z4 z7 hcw
  rw [hm] at z2 z5 z6 z7
  have d1 : (64 : Int) / s = m := by rw [← z7]; rfl
  have d2 : (64 : Int).tdiv s = m := by rw [Int.tdiv_eq_ediv_of_nonneg (by omega)]; exact d1
  have hs0 : (s : Int) ≠ 0 := by omega
  have hm0 : (m : Int) ≠ 0 := by omega
  obtain ⟨k3, hk3⟩ : ∃ k3 : Nat, 3 * m = k3 := ⟨_, rfl⟩
  have hk3i : (3 : Int) * m = k3 := by omega
  have hk30 : (k3 : Int) ≠ 0 := by omega
  have hk3b : k3 ≤ 96 := by omega
  obtain ⟨u, u1, u2, u3⟩ := modFacts many k3 (by omega)
  obtain ⟨kd0, r0, o0⟩ := order_first c
  have HO := (show Hid (AllocR (freshK 20) (if c = 0 then 3 else 64) (some (64, kd0)) ∧ Ord kd0 c 0) from ⟨r0, o0⟩)
  have HST := (show Hid (∀ i kd, i < k3 → Ord kd c i → ∃ kd', AllocR kd wd (some (128 + 64 * (i / m) + s * (i % m), kd')) ∧ Ord kd' c (i + 1)) from fun i kd hi ho => by
    have := ho.step hc5 hc (by rw [hm, hk3]; exact hi)
    rw [hs, hm] at this; exact this)
  have HCJ := (show Hid (∀ j, j < c → (sz j : Int) < wd) from hcj)
  have HS := (show Hid (sz c = s) from hs)
  have HC0 := (show Hid (c = 0 ↔ s = 2) from by
    show _ ↔ _
    rw [← hs]
    constructor
    · rintro rfl; rfl
    · intro e; exact sz_inj c 0 hc5 (by omega) e)
  clear r0 o0 hcj hc hb x11 x12 z1 hs hm hk3
  go_enter Try.func6, Try.ntmps6
  go_wp2_with fail
  refine (hnew 20 w w (Keep.refl _ _) (by omega) (by omega)).mono ?_
  rintro e w1 ⟨sb, rfl, hH⟩
  obtain ⟨ab, hc0⟩ := hH.c0
  obtain ⟨pb, hc1⟩ := hH.c1
  go_wp2_with (go_at_call 10; refine (err_any _ _).mono ?_; rintro e w' ⟨rfl, rfl⟩)
  clear hc0 hc1
  go_loop [8] (fun i => ∃ j : Nat, i = .int .i64 (sz j : Nat) ∧ j ≤ c) (fun i => 64 - (intOf i).toNat)
  case atStart => exact ⟨0, rfl, by omega⟩
  case round =>
    obtain ⟨j, rfl, hj⟩ := hrel
    by_cases hlt : j < c
    · have h1 := HCJ.out j hlt
      have h2 : sz (j + 1) = 2 * sz j := by unfold sz; rw [Nat.pow_succ 2 (j + 1)]; omega
      have h3 := (sz_facts j (by omega)).2.2.2.1
      have h5 := (sz_facts j (by omega)).2.2.1
      have h4 : (2 : Int) * (sz j : Nat) = ((sz (j + 1) : Nat) : Int) := by rw [h2]; omega
      have h6 : sz (j + 1) ≤ 64 := by omega
      have HLT := (show Hid (sz j < sz (j + 1)) from by show _ < _; omega)
      clear h2
      generalize hq : sz (j + 1) = sq at *
      generalize sz j = sj at *
      go_wp2
      go_round
      case rel => exact ⟨j + 1, by rw [hq], by omega⟩
      case measure => have := HLT.out; simp [intOf]; omega
    · obtain rfl : j = c := by omega
      rw [HS.out]
      rcases Nat.eq_zero_or_pos j with rfl | hj0
      · have hs2 : s = 2 := HC0.out.1 rfl
        subst hs2
        obtain rfl : m = 32 := by omega
        obtain rfl : k3 = 96 := by omega
        have u1' : (many : Int) % 96 = u := u1
        have u2' : (many : Int).tmod 96 = u := u2
        have HR := (show Hid (AllocR (freshK 20) 3 (some (64, kd0))) from HO.out.1)
        have HOR := (show Hid (Ord kd0 0 0) from HO.out.2)
        go_wp2_with fail
        refine (halloc_yes sb 64 4 3 _ _ _ w1 hH HR.out rfl).mono ?_
        rintro e w2 ⟨rfl, hH2⟩
        clear hH
        generalize fill0 (zeros (64 * 20)) 64 4 = ws2 at *
        go_wp2_with (go_at_call 10; refine (err_any _ _).mono ?_; rintro e w' ⟨rfl, rfl⟩)
        go_loopw [13] (fun i wr => ∃ (l : Nat) (ws : List Int) (kd : List PK), i = .int .i64 l ∧ l ≤ u + 1 ∧ Held w wr sb ws kd ∧ Hid (Ord kd 0 l)) (fun i _ => u + 1 - (intOf i).toNat)
        case atStart => exact ⟨0, _, _, rfl, by omega, hH2, HOR⟩
        case round =>
          obtain ⟨l, ws, kd, rfl, hl, hH3, HOD⟩ := hrel
          obtain ⟨w3, rfl⟩ : ∃ w3, w3 = wr := ⟨_, rfl⟩
          clear hH2
          by_cases hlt : l < u + 1
          · obtain ⟨kd', hr', ho'⟩ := HST.out l kd (by omega) HOD.out
            have HR' := (show Hid (AllocR kd wd (some (128 + 64 * (l / 32) + 2 * (l % 32), kd')) ∧ Ord kd' 0 (l + 1)) from ⟨hr', ho'⟩)
            clear hr' ho'
            obtain ⟨q, hq⟩ : ∃ q, l / 32 = q := ⟨_, rfl⟩
            obtain ⟨r, hr⟩ : ∃ r, l % 32 = r := ⟨_, rfl⟩
            have hrm : r < 32 := by rw [← hr]; exact Nat.mod_lt _ (by omega)
            have hqb : q ≤ 300 := by rw [← hq]; exact Nat.le_trans (Nat.div_le_self _ _) (by omega)
            have q1 : (l : Int) / 32 = q := by rw [← hq]; rfl
            have q2 : (l : Int).tdiv 32 = q := by rw [Int.tdiv_eq_ediv_of_nonneg (by omega)]; exact q1
            have q3 : (l : Int) % 32 = r := by rw [← hr]; rfl
            have q4 : (l : Int).tmod 32 = r := by rw [Int.tmod_eq_emod_of_nonneg (by omega)]; exact q3
            rw [hq, hr] at HR'
            obtain ⟨sr, hsr⟩ : ∃ sr, 2 * r = sr := ⟨_, rfl⟩
            have hsrb : sr ≤ 32 * 32 := by rw [← hsr]; exact Nat.mul_le_mul (by omega) (by omega)
            have hsri : (2 : Int) * r = sr := by rw [← hsr]; exact (Int.natCast_mul 2 r).symm
            rw [hsr] at HR'
            obtain ⟨y, hy⟩ : ∃ y, 128 + 64 * q + sr = y := ⟨_, rfl⟩
            rw [hy] at HR'
            have hyi : (128 : Int) + 64 * q + sr = y := by omega
            have hw1 : IntKind.i64.wrap ((2 : Int) * r) = sr := by rw [hsri]; exact IntWalk.i64_in _ (by omega)
            have hw2 : IntKind.i64.wrap ((l : Int).tdiv 32) = q := by rw [q2]; exact IntWalk.i64_in _ (by omega)
            have hw3 : IntKind.i64.wrap ((l : Int) / 32) = q := by rw [q1]; exact IntWalk.i64_in _ (by omega)
            have hw4 : IntKind.i64.wrap ((64 : Int) * q) = 64 * q := IntWalk.i64_in _ (by omega)
            have hw5 : IntKind.i64.wrap ((128 : Int) + 64 * q) = 128 + 64 * q := IntWalk.i64_in _ (by omega)
            have hw6 : IntKind.i64.wrap ((128 : Int) + 64 * q + sr) = y := by rw [hyi]; exact IntWalk.i64_in _ (by omega)
            clear hq hr hsr hy
            go_wp2_with fail
            refine (halloc_yes sb y 2 wd ws kd kd' w3 hH3 HR'.out.1 HB.out).mono ?_
            rintro e w4 ⟨rfl, hH4⟩
            clear hH3
            go_wp2_with fail
            go_quiet (first | (go_at_call 10; exact Calls.quiet_of_same ((err_any _ _).mono (fun e w' h => ⟨h.1, h.2.symm⟩))))
            have hH5 := hH4.keep0 (Keep.drewN [] w4 nq)
            generalize w4.drewN nq = w5 at *
            clear hH4
            go_wp2
            go_roundw
            case rel => exact ⟨l + 1, _, _, by go_num, by omega, hH5, HR'.out.2⟩
            case measure => simp [intOf]; omega
          · obtain rfl : l = u + 1 := by omega
            go_wp2_with (first | (go_at_call 11; refine (awake6_any _).mono ?_; rintro e w9 ⟨rfl, hK9⟩))
            go_ret
            exact ⟨rfl, hH3.K.trans hK9⟩
      · have hs2 : s ≠ 2 := fun e => by have := HC0.out.2 e; omega
        have hsd : decide ((s : Int) = 2) = false := by rw [decide_eq_false_iff_not]; omega
        have HR := (show Hid (AllocR (freshK 20) 64 (some (64, kd0))) from by
          have := HO.out.1
          rw [if_neg (by omega)] at this; exact this)
        have HOR := (show Hid (Ord kd0 j 0) from HO.out.2)
        go_wp2_with fail
        refine (halloc_yes sb 64 64 64 _ _ _ w1 hH HR.out rfl).mono ?_
        rintro e w2 ⟨rfl, hH2⟩
        clear hH
        generalize fill0 (zeros (64 * 20)) 64 64 = ws2 at *
        go_wp2_with (go_at_call 10; refine (err_any _ _).mono ?_; rintro e w' ⟨rfl, rfl⟩)
        go_loopw [13] (fun i wr => ∃ (l : Nat) (ws : List Int) (kd : List PK), i = .int .i64 l ∧ l ≤ u + 1 ∧ Held w wr sb ws kd ∧ Hid (Ord kd j l)) (fun i _ => u + 1 - (intOf i).toNat)
        case atStart => exact ⟨0, _, _, rfl, by omega, hH2, HOR⟩
        case round =>
          obtain ⟨l, ws, kd, rfl, hl, hH3, HOD⟩ := hrel
          obtain ⟨w3, rfl⟩ : ∃ w3, w3 = wr := ⟨_, rfl⟩
          clear hH2
          by_cases hlt : l < u + 1
          · obtain ⟨kd', hr', ho'⟩ := HST.out l kd (by omega) HOD.out
            have HR' := (show Hid (AllocR kd wd (some (128 + 64 * (l / m) + s * (l % m), kd')) ∧ Ord kd' j (l + 1)) from ⟨hr', ho'⟩)
            clear hr' ho'
            obtain ⟨q, hq⟩ : ∃ q, l / m = q := ⟨_, rfl⟩
            obtain ⟨r, hr⟩ : ∃ r, l % m = r := ⟨_, rfl⟩
            have hrm : r < m := by rw [← hr]; exact Nat.mod_lt _ (by omega)
            have hqb : q ≤ 300 := by rw [← hq]; exact Nat.le_trans (Nat.div_le_self _ _) (by omega)
            have q1 : (l : Int) / m = q := by rw [← hq]; rfl
            have q2 : (l : Int).tdiv m = q := by rw [Int.tdiv_eq_ediv_of_nonneg (by omega)]; exact q1
            have q3 : (l : Int) % m = r := by rw [← hr]; rfl
            have q4 : (l : Int).tmod m = r := by rw [Int.tmod_eq_emod_of_nonneg (by omega)]; exact q3
            rw [hq, hr] at HR'
            obtain ⟨sr, hsr⟩ : ∃ sr, s * r = sr := ⟨_, rfl⟩
            have hsrb : sr ≤ 32 * 32 := by rw [← hsr]; exact Nat.mul_le_mul (by omega) (by omega)
            have hsri : (s : Int) * r = sr := by rw [← hsr]; exact (Int.natCast_mul s r).symm
            rw [hsr] at HR'
            obtain ⟨y, hy⟩ : ∃ y, 128 + 64 * q + sr = y := ⟨_, rfl⟩
            rw [hy] at HR'
            have hyi : (128 : Int) + 64 * q + sr = y := by omega
            have hw1 : IntKind.i64.wrap ((s : Int) * r) = sr := by rw [hsri]; exact IntWalk.i64_in _ (by omega)
            have hw2 : IntKind.i64.wrap ((l : Int).tdiv m) = q := by rw [q2]; exact IntWalk.i64_in _ (by omega)
            have hw3 : IntKind.i64.wrap ((l : Int) / m) = q := by rw [q1]; exact IntWalk.i64_in _ (by omega)
            have hw4 : IntKind.i64.wrap ((64 : Int) * q) = 64 * q := IntWalk.i64_in _ (by omega)
            have hw5 : IntKind.i64.wrap ((128 : Int) + 64 * q) = 128 + 64 * q := IntWalk.i64_in _ (by omega)
            have hw6 : IntKind.i64.wrap ((128 : Int) + 64 * q + sr) = y := by rw [hyi]; exact IntWalk.i64_in _ (by omega)
            clear hq hr hsr hy
            go_wp2_with fail
            refine (halloc_yes sb y s wd ws kd kd' w3 hH3 HR'.out.1 HB.out).mono ?_
            rintro e w4 ⟨rfl, hH4⟩
            clear hH3
            go_wp2_with fail
            go_quiet (first | (go_at_call 10; exact Calls.quiet_of_same ((err_any _ _).mono (fun e w' h => ⟨h.1, h.2.symm⟩))))
            have hH5 := hH4.keep0 (Keep.drewN [] w4 nq)
            generalize w4.drewN nq = w5 at *
            clear hH4
            go_wp2
            go_roundw
            case rel => exact ⟨l + 1, _, _, by go_num, by omega, hH5, HR'.out.2⟩
            case measure => simp [intOf]; omega
          · obtain rfl : l = u + 1 := by omega
            go_wp2_with (first | (go_at_call 11; refine (awake6_any _).mono ?_; rintro e w9 ⟨rfl, hK9⟩))
            go_ret
            exact ⟨rfl, hH3.K.trans hK9⟩

end Go.Proofs.Ytpollfcblpaicaa

namespace Go.Proofs.Ytpollfcblpaicaa.spaceOrder
open Go.RowKit
theorem walk (a0 a1 : Int) (w0 : (Lit.int .u8 a0).wf = true) (w1 : (Lit.int .u8 a1).wf = true) (w : World) :
    Calls Try.prog 6 #[.int .u8 a0, .int .u8 a1] w fun e w' => e = .returned (.bool true) ∧ Keep [] w w' := by
  have h0 := bounds_u8 w0
  have h1 := bounds_u8 w1
  obtain ⟨a, rfl⟩ := Int.eq_ofNat_of_zero_le h0.1
  obtain ⟨b, rfl⟩ := Int.eq_ofNat_of_zero_le h1.1
  exact order6_any a b w (by omega) (by omega)
end Go.Proofs.Ytpollfcblpaicaa.spaceOrder
