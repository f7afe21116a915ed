/-
  Alloc and Free of package space, whatever they are given.
-/
import Derived.Test.YtdpaffnpedcmpabSpaceTake
import Derived.Test.YtdpaffnpedcmpabSpaceM2
namespace Go.Proofs.Ytdpaffnpedcmpab
open Go.RowKit

set_option maxHeartbeats 1000000 in
theorem salloc_arg (sb : Nat) (n : Int) (w : World) (h : blockI n = 0) :
    Calls Try.prog 24 #[.pointer (some ⟨sb, 0, none⟩), .int .i64 n] w fun e w' => e = .returned (.tuple #[.int .i64 0, .int .i64 1]) ∧ Keep [] w w' := by
  have HB := (show Hid (blockI n = 0) from h)
  clear h
  go_enter Try.func24, Try.ntmps24
  go_wp2_with (go_at_call 42; refine (block_any _ _).mono ?_; rw [HB.out]; rintro e w1 ⟨rfl, hK1⟩)
  go_ret2
  exact ⟨rfl, hK1⟩
set_option maxHeartbeats 1000000 in
theorem salloc_nil (n : Int) (w : World) :
    Calls Try.prog 24 #[.pointer none, .int .i64 n] w fun e w' => e = .returned (.tuple #[.int .i64 0, .int .i64 2]) ∧ w = w' := by
  go_enter Try.func24, Try.ntmps24
  go_wp2
  go_ret2
  exact ⟨rfl, rfl⟩
set_option maxHeartbeats 1000000 in
theorem alloc_no (sb : Nat) (n : Int) (w : World) (h : blockI n ≠ 0)
    (ht : ∀ w', Keep [] w w' → Calls Try.prog 43 #[.pointer (some ⟨sb, 0, none⟩), .int .i64 n] w' fun e w'' => e = .returned (.tuple #[.int .i64 0, .int .i64 3]) ∧ Keep [] w' w'') :
    Calls Try.prog 24 #[.pointer (some ⟨sb, 0, none⟩), .int .i64 n] w fun e w' => e = .returned (.tuple #[.int .i64 0, .int .i64 3]) ∧ Keep [] w w' := by
  obtain ⟨b, hb⟩ : ∃ b, blockI n = b := ⟨_, rfl⟩
  have HB := (show Hid (blockI n = b) from hb)
  have hd : decide (b = 0) = false := by rw [decide_eq_false_iff_not, ← hb]; exact h
  rw [hb] at h
  have HT := (show Hid (∀ w', Keep [] w w' → Calls Try.prog 43 #[.pointer (some ⟨sb, 0, none⟩), .int .i64 n] w' fun e w'' => e = .returned (.tuple #[.int .i64 0, .int .i64 3]) ∧ Keep [] w' w'') from ht)
  clear hb ht
  go_enter Try.func24, Try.ntmps24
  go_wp2_with (first | (go_at_call 42; refine (block_any _ _).mono ?_; rw [HB.out]; rintro e w1 ⟨rfl, hK1⟩) | (go_at_call 43; refine (HT.out _ hK1).mono ?_; rintro e w2 ⟨rfl, hK2⟩))
  go_ret2
  exact ⟨rfl, hK1.trans hK2⟩
set_option maxHeartbeats 2000000 in
theorem alloc_yes (sb a b : Nat) (n : Int) (F : List Nat) (ws : List Int) (ts : List Bool) (kd : List PK) (w : World) (hb : blockI n = b) (hb1 : 1 ≤ b) (hab : a + b ≤ ws.length)
    (ht : ∀ w', Keep [] w w' → Calls Try.prog 43 #[.pointer (some ⟨sb, 0, none⟩), .int .i64 n] w' fun e w'' => e = .returned (.tuple #[.int .i64 a, .int .i64 0]) ∧ ∃ L F1, SpAt w'' sb L F1 ws ts kd ∧ Keep F w' w'' ∧ Grows w' F F1) :
    Calls Try.prog 24 #[.pointer (some ⟨sb, 0, none⟩), .int .i64 n] w fun e w' => ∃ L F1, e = .returned (.tuple #[.int .i64 a, .int .i64 0]) ∧ SpAt w' sb L F1 (fill0 ws a b) ts kd ∧ Keep F w w' ∧ Grows w F F1 := by
  have HB := (show Hid (blockI n = b) from hb)
  have hd : decide ((b : Int) = 0) = false := by rw [decide_eq_false_iff_not]; omega
  have HT := (show Hid (∀ w', Keep [] w w' → Calls Try.prog 43 #[.pointer (some ⟨sb, 0, none⟩), .int .i64 n] w' fun e w'' => e = .returned (.tuple #[.int .i64 a, .int .i64 0]) ∧ ∃ L F1, SpAt w'' sb L F1 ws ts kd ∧ Keep F w' w'' ∧ Grows w' F F1) from ht)
  clear hb ht
  go_enter Try.func24, Try.ntmps24
  go_wp2_with (first | (go_at_call 42; refine (block_any _ _).mono ?_; rw [HB.out]; rintro e w1 ⟨rfl, hK1⟩) | (go_at_call 43; refine (HT.out _ hK1).mono ?_; rintro e w2 ⟨rfl, L, F1, hS2, hK2, hG2⟩; have hc0 := hS2.c0; have hA2 := hS2.arena) | (go_at_call 44; refine (fill_yes L.ab L.ag a b _ _ hA2 (by omega) (by omega)).mono ?_; rintro e w3 ⟨rfl, hA3, hK3⟩))
  have hS3 := hS2.words hK3 hA3 (fill0_length ws a b hab)
  have f := hS2.f
  have hsz := hK1.size
  have hsz2 := hK2.size
  have HG := (show Hid (Grows w F F1) from fun k e => by
    rcases hG2 k e with h | h
    · exact .inl h
    · right; omega)
  have HK := (show Hid (Keep F w w3) from (((hK1.mono (T := L.ag :: F) (by simp)).trans (hK2.mono (fun k e => List.mem_cons_of_mem _ e))).trans (hK3.mono (by simp))).drop (fun k e hlt => by
    rcases List.mem_cons.1 e with rfl | e
    · rcases hG2 _ f.2.2.1 with h | h
      · exact h
      · omega
    · exact e))
  have HS := (show Hid (SpAt w3 sb L F1 (fill0 ws a b) ts kd) from hS3)
  clear hS3 hS2 hA2 hA3 hK3 hK2 hG2 f
  go_ret2
  exact ⟨L, F1, rfl, HS.out, HK.out, HG.out⟩

/-- Alloc that has room. -/
theorem salloc_yes (sb a b : Nat) (n : Int) (F : List Nat) (ws : List Int) (kd kd' : List PK) (w : World) (h : IsSpace w sb F ws kd) (hw : WF kd) (hr : AllocR kd n (some (a, kd'))) (hb : blockI n = b) :
    Calls Try.prog 24 #[.pointer (some ⟨sb, 0, none⟩), .int .i64 n] w fun e w' => ∃ F', e = .returned (.tuple #[.int .i64 a, .int .i64 0]) ∧ IsSpace w' sb F' (fill0 ws a b) kd' ∧ Keep F w w' ∧ Grows w F F' := by
  obtain ⟨b', hb', hb1, hw', hl', ha1, ha2, hf1, hf2⟩ := hr.spec hw
  obtain rfl : b = b' := by rw [hb] at hb'; omega
  obtain ⟨L, h⟩ := h
  have hlen := h.len
  have hn2 := hw.len2
  have fin : ∀ ht, _ := alloc_yes sb a b n F ws (takenL kd') kd' w hb hb1 (by omega)
  refine (fin ?_).mono ?_
  · intro w1 hK1
    have h1 := h.keep0 hK1
    cases hr with
    | old c p i xs e1 e2 e3 e4 e5 =>
      obtain ⟨hc, hxl, _⟩ := hw.small p c xs e3
      have hp := kat_lt kd p (by rw [e3]; simp)
      have hts : takenL kd = takenL (kd.set p (.small c (xs.set i true))) := by
        rw [taken_set]
        have : (takenL kd)[p]?.getD false = true := by rw [takenL_get, e3]; rfl
        refine beq_of_getD (by simp) (fun t => ?_)
        by_cases e : t = p
        · subst e; rw [this, bset_same _ _ _ (by rw [takenL_length]; exact hp)]; rfl
        · rw [bset_other _ _ _ _ (fun e' => e e'.symm)]
      refine take_small sb c n w1 _ _ (fun w'' => ∃ L F1, SpAt w'' sb L F1 ws (takenL (kd.set p (.small c (xs.set i true)))) (kd.set p (.small c (xs.set i true))) ∧ Keep F w1 w'' ∧ Grows w1 F F1) e1 hc ?_
      intro w2 hK2
      have h2 := h1.keep0 hK2
      refine (tks_yes sb c p i xs F ws (takenL kd) kd w2 hc ((room_old sb c p L F ws _ kd w2 h2 hw hc e2).mono ?_) e3 hxl e4 e5 (by omega)).mono ?_
      · rintro e w3 ⟨rfl, hK3⟩
        exact ⟨L, F, rfl, h2.keep0 hK3, hK3.mono (by simp), Grows.refl _ _⟩
      · rintro e w3 ⟨L3, F3, rfl, hS3, hK3, hG3⟩
        rw [hts] at hS3
        have := hK2.size
        refine ⟨rfl, L3, F3, hS3, (hK2.mono (by simp)).trans hK3, fun k e => ?_⟩
        rcases hG3 k e with h | h
        · exact .inl h
        · right; omega
    | new c p e1 e2 e3 =>
      obtain ⟨c', hc', hc⟩ : ∃ j : Nat, classI n = j ∧ j < 5 := by
        rcases class_lt n with e | e
        · rw [e1] at e; omega
        · exact e
      obtain rfl : c = c' := by rw [e1] at hc'; omega
      have hcl := run_clear (by omega) e3
      have hp : p < kd.length := by have := (clear_free hcl).1; omega
      obtain ⟨z1, z2, z3, z4, z5, z6, z7⟩ := sz_facts c hc
      have hx0 : nextR (offs (roomOf c)) 0 false = 0 := nextR_is _ _ _ 0 (by omega) (by rw [offs_length]; omega) (offs_get _ _) (fun t a b => by omega)
      have hset : (kd.set p (.small c (offs (roomOf c)))).set p (.small c ((offs (roomOf c)).set 0 true)) = kd.set p (.small c ((offs (roomOf c)).set 0 true)) := by simp
      refine take_small sb c n w1 _ _ (fun w'' => ∃ L F1, SpAt w'' sb L F1 ws (takenL (kd.set p (.small c ((offs (roomOf c)).set 0 true)))) (kd.set p (.small c ((offs (roomOf c)).set 0 true))) ∧ Keep F w1 w'' ∧ Grows w1 F F1) e1 hc ?_
      intro w2 hK2
      have h2 := h1.keep0 hK2
      have := tks_yes sb c p 0 (offs (roomOf c)) F ws _ (kd.set p (.small c (offs (roomOf c)))) w2 hc (room_new sb c p L F ws kd w2 h2 hw hc (none_has e2) e3 hcl) (kat_set_same _ _ _ hp) (offs_length _) hx0 (by rw [offs_length]; omega) (by omega)
      rw [hset, show 64 * p + 0 * sz c = 64 * p by omega] at this
      refine this.mono ?_
      rintro e w3 ⟨L3, F3, rfl, hS3, hK3, hG3⟩
      rw [show takenL (kd.set p (.small c (offs (roomOf c)))) = takenL (kd.set p (.small c ((offs (roomOf c)).set 0 true))) by rw [taken_set, taken_set]; rfl] at hS3
      have := hK2.size
      refine ⟨rfl, L3, F3, hS3, (hK2.mono (by simp)).trans hK3, fun k e => ?_⟩
      rcases hG3 k e with h | h
      · exact .inl h
      · right; omega
    | large k p e1 e2 e3 e4 =>
      have hcl := run_clear e3 e4
      have hk16 : k ≤ 16 := by have := (pages_le n).2; omega
      refine take_large sb k n w1 _ _ (fun w'' => ∃ L F1, SpAt w'' sb L F1 ws (takenL (putParts kd p k)) (putParts kd p k) ∧ Keep F w1 w'' ∧ Grows w1 F F1) e1 e2 ?_
      intro w2 hK2
      have h2 := h1.keep0 hK2
      refine (tkl_yes sb k p L F ws kd w2 h2 e3 hk16 e4 hcl hn2).mono ?_
      rintro e w3 ⟨L3, F3, rfl, hS3, hK3, hG3⟩
      have := hK2.size
      refine ⟨rfl, L3, F3, hS3, (hK2.mono (by simp)).trans hK3, fun k e => ?_⟩
      rcases hG3 k e with h | h
      · exact .inl h
      · right; omega
  · rintro e w' ⟨L', F', rfl, hS', hK', hG'⟩
    exact ⟨F', rfl, ⟨L', hS'⟩, hK', hG'⟩
/-- Alloc that has none. -/
theorem salloc_no (sb : Nat) (n : Int) (F : List Nat) (ws : List Int) (kd : List PK) (w : World) (h : IsSpace w sb F ws kd) (hw : WF kd) (hr : AllocR kd n none) (hb : blockI n ≠ 0) :
    Calls Try.prog 24 #[.pointer (some ⟨sb, 0, none⟩), .int .i64 n] w fun e w' => e = .returned (.tuple #[.int .i64 0, .int .i64 3]) ∧ Keep [] w w' := by
  obtain ⟨L, h⟩ := h
  refine alloc_no sb n w hb ?_
  intro w1 hK1
  have h1 := h.keep0 hK1
  cases hr with
  | full c e1 e2 e3 =>
    obtain ⟨c', hc', hc⟩ : ∃ j : Nat, classI n = j ∧ j < 5 := by
      rcases class_lt n with e | e
      · rw [e1] at e; omega
      · exact e
    obtain rfl : c = c' := by rw [e1] at hc'; omega
    refine take_small sb c n w1 _ _ (fun w'' => Keep [] w1 w'') e1 hc ?_
    intro w2 hK2
    refine (tks_no sb c w2 (room_full sb c L F ws _ kd w2 (h1.keep0 hK2) hw hc (none_has e2) e3)).mono ?_
    rintro e w3 ⟨rfl, hK3⟩
    exact ⟨rfl, hK2.trans hK3⟩
  | over k e1 e2 e3 e4 =>
    refine take_large sb k n w1 _ _ (fun w'' => Keep [] w1 w'') e1 e2 ?_
    intro w2 hK2
    refine (tkl_no sb k L F ws _ kd w2 (h1.keep0 hK2) e3 (by have := (pages_le n).2; omega) e4).mono ?_
    rintro e w3 ⟨rfl, hK3⟩
    exact ⟨rfl, hK2.trans hK3⟩

end Go.Proofs.Ytdpaffnpedcmpab
