/-
  Find and Cap of package space.
-/
import Derived.Test.YtdpaffnpedcmpabSpaceAt
import Derived.OwnWalk
namespace Go.Proofs.Ytdpaffnpedcmpab
open Go.RowKit

set_option maxHeartbeats 1000000 in
theorem sfs_no (sb a p n gs q1 b g s i r : Nat) (xs : List Bool) (w : World) (hc2 : w.cell? ⟨sb, 2, none⟩ = some (.slice (some ⟨gs, 0, none⟩) n n)) (hcs : w.cell? ⟨gs, p, none⟩ = some (.pointer (some ⟨q1, 0, none⟩)))
    (hP : IsPage w q1 b g s xs) (hp : p < n) (h1 : (a : Int) / 64 = p) (h2 : (a : Int).tdiv 64 = p) (h3 : (a : Int) % 64 = r) (h4 : (a : Int).tmod 64 = r) (h5 : (r : Int) / s = i) (h6 : (r : Int).tdiv s = i) (hs : (s : Int) ≠ 0) (hx : hasR xs i = false) (hb : a ≤ 20000 ∧ i ≤ 64) :
    Calls Try.prog 48 #[.pointer (some ⟨sb, 0, none⟩), .int .i64 a] w fun e w' => e = .returned (.tuple #[.int .i64 0, .int .i64 0, .bool false]) ∧ Keep [] w w' := by
  have HX := (show Hid (hasR xs i = false) from hx)
  have hc := hP.cell
  have hP1 : ∀ k, IsPage (w.drewN k) q1 b g s xs := fun k => hP.keep (Keep.drewN [] w k) (by simp) (by simp) (by simp)
  have hK := fun k => Keep.drewN [] w k
  have hw1 : IntKind.i64.wrap ((r : Int).tdiv s) = i := by rw [h6]; exact IntWalk.i64_in _ (by omega)
  have hw2 : IntKind.i64.wrap ((r : Int) / s) = i := by rw [h5]; exact IntWalk.i64_in _ (by omega)
  clear hP hx
  go_enter Try.func48, Try.ntmps48
  go_wp2_with fail
  go_quiet (first | (go_at_call 64; exact Calls.quiet_of_same ((kwords_any q1 b g _ _ _ (hP1 _)).mono (fun e w' h => ⟨h.1, h.2.symm⟩))) | (go_at_call 63; exact Calls.quiet_of_same ((bhas_any b g i _ _ (hP1 _).bits).mono (fun e w' h => ⟨by rw [HX.out] at h; exact h.1, h.2.symm⟩))))
  go_wp2
  go_ret3
  exact ⟨rfl, hK _⟩
set_option maxHeartbeats 1000000 in
theorem sfs_yes (sb a p n gs q1 b g s i r m : Nat) (xs : List Bool) (w : World) (hc2 : w.cell? ⟨sb, 2, none⟩ = some (.slice (some ⟨gs, 0, none⟩) n n)) (hcs : w.cell? ⟨gs, p, none⟩ = some (.pointer (some ⟨q1, 0, none⟩)))
    (hP : IsPage w q1 b g s xs) (hp : p < n) (h1 : (a : Int) / 64 = p) (h2 : (a : Int).tdiv 64 = p) (h3 : (a : Int) % 64 = r) (h4 : (a : Int).tmod 64 = r) (h5 : (r : Int) / s = i) (h6 : (r : Int).tdiv s = i) (h7 : (a : Int) % s = m) (h8 : (a : Int).tmod s = m) (hs : (s : Int) ≠ 0) (hx : hasR xs i = true) (hb : a ≤ 20000 ∧ i ≤ 64 ∧ m ≤ a) :
    Calls Try.prog 48 #[.pointer (some ⟨sb, 0, none⟩), .int .i64 a] w fun e w' => e = .returned (.tuple #[.int .i64 ((a : Int) - m), .int .i64 s, .bool true]) ∧ Keep [] w w' := by
  have HX := (show Hid (hasR xs i = true) from hx)
  have hc := hP.cell
  have hP1 : ∀ k, IsPage (w.drewN k) q1 b g s xs := fun k => hP.keep (Keep.drewN [] w k) (by simp) (by simp) (by simp)
  have hw1 : IntKind.i64.wrap ((r : Int).tdiv s) = i := by rw [h6]; exact IntWalk.i64_in _ (by omega)
  have hw2 : IntKind.i64.wrap ((r : Int) / s) = i := by rw [h5]; exact IntWalk.i64_in _ (by omega)
  have hw3 : IntKind.i64.wrap ((a : Int) - m) = (a : Int) - m := IntWalk.i64_in _ (by omega)
  clear hP hx
  go_enter Try.func48, Try.ntmps48
  go_wp2_with fail
  go_quiet (first | (go_at_call 64; exact Calls.quiet_of_same ((kwords_any q1 b g _ _ _ (hP1 _)).mono (fun e w' h => ⟨h.1, h.2.symm⟩))) | (go_at_call 63; exact Calls.quiet_of_same ((bhas_any b g i _ _ (hP1 _).bits).mono (fun e w' h => ⟨by rw [HX.out] at h; exact h.1, h.2.symm⟩))))
  go_wp2_with fail
  have hPq := hP1 nq
  have hKq := Keep.drewN [] w nq
  generalize w.drewN nq = wq at *
  have hP3 : ∀ k, IsPage (wq.drewN k) q1 b g s xs := fun k => hPq.keep (Keep.drewN [] wq k) (by simp) (by simp) (by simp)
  have hK3 := fun k => hKq.trans (Keep.drewN [] wq k)
  go_quiet (first | (go_at_call 64; exact Calls.quiet_of_same ((kwords_any q1 b g _ _ _ (hP3 _)).mono (fun e w' h => ⟨h.1, h.2.symm⟩))))
  go_wp2
  go_ret3
  exact ⟨rfl, hK3 _⟩

set_option maxHeartbeats 1000000 in
/-- The last page up to p where a larger block begins, or page 0. -/
theorem sfl_core (sb a p n gl : Nat) (v : Nat → Int) (q : Nat) (w : World) (hc3 : w.cell? ⟨sb, 3, none⟩ = some (.slice (some ⟨gl, 0, none⟩) n n)) (hcl : ∀ t, t < n → w.cell? ⟨gl, t, none⟩ = some (.int .i64 (v t)))
    (hp : p < n) (hpa : a / 64 = p) (hqp : q ≤ p) (hv : ∀ t, q < t → t ≤ p → v t = 0) (hq : q = 0 ∨ v q ≠ 0) (hb : a ≤ 20000) (hvb : 0 ≤ v q ∧ v q ≤ 300) :
    Calls Try.prog 49 #[.pointer (some ⟨sb, 0, none⟩), .int .i64 a] w fun e w' =>
      e = .returned (if (a : Int) - 64 * q < 64 * v q then .tuple #[.int .i64 (q * 64), .int .i64 (v q * 64), .bool true] else .tuple #[.int .i64 0, .int .i64 0, .bool false]) ∧ Keep [] w w' := by
  have h1 : (a : Int) / 64 = p := by omega
  have h2 : (a : Int).tdiv 64 = p := by rw [Int.tdiv_eq_ediv_of_nonneg (by omega)]; exact h1
  have HV := (show Hid (∀ t, q < t → t ≤ p → v t = 0) from hv)
  have HC := (show Hid (∀ t, t < n → w.cell? ⟨gl, t, none⟩ = some (.int .i64 (v t))) from hcl)
  have HP := (show Hid (a / 64 = p) from hpa)
  have HK := (show Hid (∀ k, Keep [] w (w.drewN k)) from fun k => Keep.drewN [] w k)
  have hx := hcl q (by omega)
  have hq' : q = 0 ∨ 0 < q ∧ v q ≠ 0 := by omega
  clear hv hcl hpa hq
  obtain ⟨y, hy⟩ : ∃ y, v q = y := ⟨_, rfl⟩
  rw [hy] at hx hvb hq' ⊢
  clear hy
  by_cases hlt : (a : Int) - 64 * q < 64 * y
  · rw [if_pos hlt]
    go_enter Try.func49, Try.ntmps49
    go_wp2
    go_loop [7] (fun i => ∃ j : Nat, i = .int .i64 j ∧ q ≤ j ∧ j ≤ p) (fun i => (intOf i).toNat)
    case atStart => exact ⟨p, rfl, hqp, by omega⟩
    case round =>
      obtain ⟨j, rfl, hqj, hjp⟩ := hrel
      by_cases hqlt : q < j
      · have hx := HC.out j (by omega)
        rw [HV.out j hqlt hjp] at hx
        go_wp2
        go_round
        case rel => exact ⟨j - 1, by go_num, by omega, by omega⟩
        case measure => simp [intOf]; omega
      · obtain rfl : j = q := by omega
        rcases hq' with rfl | ⟨hq0, hq1⟩
        · go_wp2
          go_quiet (fail)
          go_wp2
          go_ret3
          exact ⟨rfl, HK.out _⟩
        · have hyd : decide (y = 0) = false := by rw [decide_eq_false_iff_not]; exact hq1
          go_wp2
          go_quiet (fail)
          go_wp2
          go_ret3
          exact ⟨rfl, HK.out _⟩
  · rw [if_neg hlt]
    go_enter Try.func49, Try.ntmps49
    go_wp2
    go_loop [7] (fun i => ∃ j : Nat, i = .int .i64 j ∧ q ≤ j ∧ j ≤ p) (fun i => (intOf i).toNat)
    case atStart => exact ⟨p, rfl, hqp, by omega⟩
    case round =>
      obtain ⟨j, rfl, hqj, hjp⟩ := hrel
      by_cases hqlt : q < j
      · have hx := HC.out j (by omega)
        rw [HV.out j hqlt hjp] at hx
        go_wp2
        go_round
        case rel => exact ⟨j - 1, by go_num, by omega, by omega⟩
        case measure => simp [intOf]; omega
      · obtain rfl : j = q := by omega
        rcases hq' with rfl | ⟨hq0, hq1⟩
        · go_wp2
          go_quiet (fail)
          go_wp2
          go_ret3
          exact ⟨rfl, HK.out _⟩
        · have hyd : decide (y = 0) = false := by rw [decide_eq_false_iff_not]; exact hq1
          go_wp2
          go_quiet (fail)
          go_wp2
          go_ret3
          exact ⟨rfl, HK.out _⟩

/-- What Find answers. -/
def foundV : Option (Nat × Nat) → Value
  | some (s, n) => .tuple #[.int .i64 s, .int .i64 n, .bool true]
  | none => .tuple #[.int .i64 0, .int .i64 0, .bool false]

theorem big_facts {kd : List PK} (h : WF kd) (p : Nat) (hp : p < kd.length) (hs : ∀ c xs, kat kd p ≠ .small c xs) (a : Nat) (ha : a / 64 = p) :
    ∃ q, q ≤ p ∧ (∀ t, q < t → t ≤ p → (kat kd t).big = 0) ∧ (q = 0 ∨ (kat kd q).big ≠ 0) ∧ 0 ≤ (kat kd q).big ∧ (kat kd q).big ≤ 300 ∧
      (if (a : Int) - 64 * q < 64 * (kat kd q).big then Value.tuple #[.int .i64 (q * 64), .int .i64 ((kat kd q).big * 64), .bool true] else .tuple #[.int .i64 0, .int .i64 0, .bool false]) = foundV (findN kd a) := by
  have ex : ∀ m, ∃ q, q ≤ m ∧ (∀ t, q < t → t ≤ m → (kat kd t).big = 0) ∧ (q = 0 ∨ (kat kd q).big ≠ 0) := by
    intro m
    induction m with
    | zero => exact ⟨0, by omega, fun t a b => by omega, .inl rfl⟩
    | succ m ih =>
      by_cases e : (kat kd (m + 1)).big = 0
      · obtain ⟨q, h1, h2, h3⟩ := ih
        refine ⟨q, by omega, fun t a b => ?_, h3⟩
        by_cases e' : t = m + 1
        · subst e'; exact e
        · exact h2 t a (by omega)
      · exact ⟨m + 1, by omega, fun t a b => by omega, .inr e⟩
  have bb : ∀ q, 0 ≤ (kat kd q).big ∧ (kat kd q).big ≤ 300 := by
    intro q
    cases e : kat kd q with
    | part j k =>
      have := h.part q j k e
      cases j <;> simp [PK.big]; omega
    | _ => simp [PK.big]
  obtain ⟨q, h1, h2, h3⟩ := ex p
  refine ⟨q, h1, h2, h3, (bb q).1, (bb q).2, ?_⟩
  have nb : ∀ t, (kat kd t).big ≠ 0 → ∃ k : Nat, kat kd t = .part 0 k ∧ (kat kd t).big = k ∧ 1 ≤ k := by
    intro t e
    cases e2 : kat kd t with
    | part j k =>
      rw [e2] at e
      cases j with
      | zero => exact ⟨k, rfl, rfl, by have := (h.part t 0 k e2).1; omega⟩
      | succ j => exact absurd rfl e
    | _ => rw [e2] at e; exact absurd rfl e
  cases hk : kat kd p with
  | small c xs => exact absurd hk (hs c xs)
  | part j k =>
    obtain ⟨g1, g2, g3, g4⟩ := h.part p j k hk
    obtain ⟨m1, m2, m3⟩ := h.part0 hk
    have hq : q = p - j := by
      rcases Nat.lt_trichotomy q (p - j) with e | e | e
      · have := h2 (p - j) e (by omega)
        have g := g4 0 (by omega)
        rw [Nat.add_zero] at g
        rw [g] at this
        simp [PK.big] at this; omega
      · exact e
      · have g := g4 (q - (p - j)) (by omega)
        rw [show p - j + (q - (p - j)) = q by omega] at g
        rcases h3 with e0 | e0
        · omega
        · rw [g] at e0
          obtain ⟨m, hm⟩ : ∃ m, q - (p - j) = m + 1 := ⟨q - (p - j) - 1, by omega⟩
          rw [hm] at e0; exact absurd rfl e0
    have g := g4 0 (by omega)
    rw [Nat.add_zero, ← hq] at g
    rw [find_part kd a j k (by rw [ha]; exact hk), g, ha, ← hq]
    have : (PK.part 0 k).big = k := rfl
    rw [this, if_pos (by omega)]
    show _ = Value.tuple #[.int .i64 ((64 * q : Nat) : Int), .int .i64 ((64 * k : Nat) : Int), .bool true]
    rw [show ((64 * q : Nat) : Int) = (q : Int) * 64 by omega, show ((64 * k : Nat) : Int) = (k : Int) * 64 by omega]
  | zero =>
    obtain rfl := h.only p hk
    obtain rfl : q = 0 := by omega
    rw [find_zero kd a (by rw [ha]; exact hk), hk, if_neg (by simp [PK.big])]
    rfl
  | free =>
    rw [find_free kd a (by rw [ha]; exact hk), if_neg ?_]
    · rfl
    · intro hlt
      rcases Int.lt_or_le 0 (kat kd q).big with hb | hb
      · obtain ⟨k, e1, e2, e3⟩ := nb q (by omega)
        rw [e2] at hlt
        have := (h.part q 0 k e1).2.2.2 (p - q) (by omega)
        rw [show q - 0 + (p - q) = p by omega, hk] at this
        cases this
      · omega

set_option maxHeartbeats 1000000 in
theorem sfind_out (sb n : Nat) (x : Option Addr) (a : Int) (w : World) (hc0 : w.cell? ⟨sb, 0, none⟩ = some (.pointer x)) (hlen : ∀ w', w = w' → Calls Try.prog 47 #[.pointer x] w' fun e w'' => e = .returned (.int .i64 n) ∧ w' = w'') (h : ¬ (0 ≤ a ∧ a < n)) :
    Calls Try.prog 28 #[.pointer (some ⟨sb, 0, none⟩), .int .i64 a] w fun e w' => e = .returned (.tuple #[.int .i64 0, .int .i64 0, .bool false]) ∧ Keep [] w w' := by
  rcases (show a < 0 ∨ 0 ≤ a ∧ (n : Int) ≤ a by omega) with h1 | ⟨h0, h1⟩
  all_goals
    go_enter Try.func28, Try.ntmps28
    go_wp2_with (go_at_call 47; refine (hlen _ rfl).mono ?_; rintro e w' ⟨rfl, rfl⟩)
    go_ret3
    exact ⟨rfl, Keep.refl _ _⟩
set_option maxHeartbeats 1000000 in
theorem sfind_small (sb a p n m gs q1 : Nat) (x : Option Addr) (v : Value) (w : World) (hc0 : w.cell? ⟨sb, 0, none⟩ = some (.pointer x)) (hlen : ∀ w', w = w' → Calls Try.prog 47 #[.pointer x] w' fun e w'' => e = .returned (.int .i64 n) ∧ w' = w'')
    (hc2 : w.cell? ⟨sb, 2, none⟩ = some (.slice (some ⟨gs, 0, none⟩) m m)) (hcs : w.cell? ⟨gs, p, none⟩ = some (.pointer (some ⟨q1, 0, none⟩))) (hp : p < m) (h1 : (a : Int) / 64 = p) (h2 : (a : Int).tdiv 64 = p) (han : a < n) (hn : n ≤ 20000)
    (h0 : Int) (h00 : Int) (hB : Bool) (hv : v = .tuple #[.int .i64 h0, .int .i64 h00, .bool hB])
    (hf : Calls Try.prog 48 #[.pointer (some ⟨sb, 0, none⟩), .int .i64 a] w fun e w' => e = .returned v ∧ Keep [] w w') :
    Calls Try.prog 28 #[.pointer (some ⟨sb, 0, none⟩), .int .i64 a] w fun e w' => e = .returned v ∧ Keep [] w w' := by
  subst hv
  have HF := (show Hid (Calls Try.prog 48 #[.pointer (some ⟨sb, 0, none⟩), .int .i64 a] w fun e w' => e = .returned (.tuple #[.int .i64 h0, .int .i64 h00, .bool hB]) ∧ Keep [] w w') from hf)
  clear hf
  go_enter Try.func28, Try.ntmps28
  go_wp2_with (first | (go_at_call 47; refine (hlen _ rfl).mono ?_; rintro e w' ⟨rfl, rfl⟩) | (go_at_call 48; refine HF.out.mono ?_; rintro e w1 ⟨rfl, hK1⟩))
  go_ret3
  exact ⟨rfl, hK1⟩
set_option maxHeartbeats 1000000 in
theorem sfind_large (sb a p n m gs : Nat) (x : Option Addr) (v : Value) (w : World) (hc0 : w.cell? ⟨sb, 0, none⟩ = some (.pointer x)) (hlen : ∀ w', w = w' → Calls Try.prog 47 #[.pointer x] w' fun e w'' => e = .returned (.int .i64 n) ∧ w' = w'')
    (hc2 : w.cell? ⟨sb, 2, none⟩ = some (.slice (some ⟨gs, 0, none⟩) m m)) (hcs : w.cell? ⟨gs, p, none⟩ = some (.pointer none)) (hp : p < m) (h1 : (a : Int) / 64 = p) (h2 : (a : Int).tdiv 64 = p) (han : a < n) (hn : n ≤ 20000)
    (h0 : Int) (h00 : Int) (hB : Bool) (hv : v = .tuple #[.int .i64 h0, .int .i64 h00, .bool hB])
    (hf : Calls Try.prog 49 #[.pointer (some ⟨sb, 0, none⟩), .int .i64 a] w fun e w' => e = .returned v ∧ Keep [] w w') :
    Calls Try.prog 28 #[.pointer (some ⟨sb, 0, none⟩), .int .i64 a] w fun e w' => e = .returned v ∧ Keep [] w w' := by
  subst hv
  have HF := (show Hid (Calls Try.prog 49 #[.pointer (some ⟨sb, 0, none⟩), .int .i64 a] w fun e w' => e = .returned (.tuple #[.int .i64 h0, .int .i64 h00, .bool hB]) ∧ Keep [] w w') from hf)
  clear hf
  go_enter Try.func28, Try.ntmps28
  go_wp2_with (first | (go_at_call 47; refine (hlen _ rfl).mono ?_; rintro e w' ⟨rfl, rfl⟩) | (go_at_call 49; refine HF.out.mono ?_; rintro e w1 ⟨rfl, hK1⟩))
  go_ret3
  exact ⟨rfl, hK1⟩
set_option maxHeartbeats 1000000 in
theorem sfind_nil (a : Int) (w : World) :
    Calls Try.prog 28 #[.pointer none, .int .i64 a] w fun e w' => e = .returned (.tuple #[.int .i64 0, .int .i64 0, .bool false]) ∧ w = w' := by
  go_enter Try.func28, Try.ntmps28
  go_wp2
  go_ret3
  exact ⟨rfl, rfl⟩

theorem foundV_is (o : Option (Nat × Nat)) : ∃ (x y : Int) (b : Bool), foundV o = .tuple #[.int .i64 x, .int .i64 y, .bool b] := by
  cases o with
  | none => exact ⟨0, 0, false, rfl⟩
  | some o => obtain ⟨s, n⟩ := o; exact ⟨s, n, true, rfl⟩

/-- Find, of any space, at any integer. -/
theorem sfind_any (sb : Nat) (F : List Nat) (a : Int) (ws : List Int) (kd : List PK) (w : World) (h : IsSpace w sb F ws kd) (hw : WF kd) :
    Calls Try.prog 28 #[.pointer (some ⟨sb, 0, none⟩), .int .i64 a] w fun e w' => e = .returned (foundV (findI kd a)) ∧ Keep [] w w' := by
  obtain ⟨L, h⟩ := h
  have hl := h.len
  have hn2 := hw.len2
  have hlen : ∀ w', w = w' → Calls Try.prog 47 #[.pointer (some ⟨L.ab, 0, none⟩)] w' fun e w'' => e = .returned (.int .i64 ws.length) ∧ w' = w'' := by
    rintro _ rfl; exact len_any _ _ _ _ h.arena
  by_cases ha : 0 ≤ a ∧ a < ws.length
  · obtain ⟨k, rfl⟩ := Int.eq_ofNat_of_zero_le ha.1
    have e0 : findI kd (k : Int) = findN kd k := by unfold findI; rw [if_neg (by omega), Int.toNat_natCast]
    rw [e0]
    obtain ⟨p, hp⟩ : ∃ p, k / 64 = p := ⟨_, rfl⟩
    have hpl : p < kd.length := by omega
    have h1 : (k : Int) / 64 = p := by omega
    have h2 : (k : Int).tdiv 64 = p := by rw [Int.tdiv_eq_ediv_of_nonneg (by omega)]; exact h1
    have hcs := h.cs hpl
    obtain ⟨x, y, b, hv⟩ := foundV_is (findN kd k)
    by_cases hsm : ∃ c xs, kat kd p = .small c xs
    · obtain ⟨c, xs, hk⟩ := hsm
      rw [hk] at hcs
      refine sfind_small sb k p ws.length kd.length L.gs (L.P p).1 _ _ w h.c0 hlen h.c2 hcs hpl h1 h2 (by omega) (by omega) x y b hv ?_
      obtain ⟨hc, hxl, _⟩ := hw.small p c xs hk
      obtain ⟨z1, z2, z3, z4, z5, z6, z7⟩ := sz_facts c hc
      obtain ⟨y1, y2, y3, y4⟩ := sz_word c k hc
      have hP := h.page p c xs hk
      rw [z1] at hP
      obtain ⟨r, hr⟩ : ∃ r, k % 64 = r := ⟨_, rfl⟩
      obtain ⟨i, hi⟩ : ∃ i, r / sz c = i := ⟨_, rfl⟩
      obtain ⟨m, hm⟩ : ∃ m, k % sz c = m := ⟨_, rfl⟩
      have hs0 : ((sz c : Nat) : Int) ≠ 0 := by omega
      rw [hr, hi] at y2
      rw [hm] at y3 y4
      have q1 : (k : Int) % 64 = r := by omega
      have q2 : (k : Int).tmod 64 = r := by rw [Int.tmod_eq_emod_of_nonneg (by omega)]; exact q1
      have q3 : (r : Int) / (sz c : Nat) = i := by rw [← hi]; rfl
      have q4 : (r : Int).tdiv (sz c : Nat) = i := by rw [Int.tdiv_eq_ediv_of_nonneg (by omega)]; exact q3
      have q5 : (k : Int) % (sz c : Nat) = m := by rw [← hm]; rfl
      have q6 : (k : Int).tmod (sz c : Nat) = m := by rw [Int.tmod_eq_emod_of_nonneg (by omega)]; exact q5
      have hhas : hasR xs i = xs[i]?.getD false := has_nat xs i (by rw [hxl]; exact y2)
      rw [find_small kd k c xs (by rw [hp]; exact hk), hr, hi, hm]
      cases hx : xs[i]?.getD false
      · rw [hx] at hhas
        exact sfs_no sb k p kd.length L.gs _ _ _ (sz c) i r xs w h.c2 hcs hP hpl h1 h2 q1 q2 q3 q4 hs0 hhas (by omega)
      · rw [hx] at hhas
        have := sfs_yes sb k p kd.length L.gs _ _ _ (sz c) i r m xs w h.c2 hcs hP hpl h1 h2 q1 q2 q3 q4 q5 q6 hs0 hhas (by omega)
        rw [if_pos rfl]
        rw [show ((k : Int) - m) = ((k - m : Nat) : Int) by omega] at this
        exact this
    · have hs : ∀ c xs, kat kd p ≠ .small c xs := fun c xs e => hsm ⟨c, xs, e⟩
      have hpt : (kat kd p).ptr (L.P p).1 = .pointer none := by
        cases e : kat kd p with
        | small c xs => exact absurd e (hs c xs)
        | _ => rfl
      rw [hpt] at hcs
      refine sfind_large sb k p ws.length kd.length L.gs _ _ w h.c0 hlen h.c2 hcs hpl h1 h2 (by omega) (by omega) x y b hv ?_
      obtain ⟨q, g1, g2, g3, g4, g5, g6⟩ := big_facts hw p hpl hs k hp
      rw [← g6]
      exact sfl_core sb k p kd.length L.gl (fun t => (kat kd t).big) q w h.c3 (fun t ht => h.cl ht) hpl hp g1 g2 g3 (by omega) ⟨g4, g5⟩
  · have e0 : findI kd a = none := by
      unfold findI
      split
      · rfl
      · exact find_out kd _ (by omega)
    rw [e0]
    exact sfind_out sb ws.length _ a w h.c0 hlen (by omega)

end Go.Proofs.Ytdpaffnpedcmpab
