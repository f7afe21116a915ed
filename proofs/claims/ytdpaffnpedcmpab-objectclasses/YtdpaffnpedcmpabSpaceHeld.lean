/-
  A space that a statement has made: what each call answers and leaves, with nothing older turned.
-/
import Derived.Test.YtdpaffnpedcmpabSpaceFree
namespace Go.Proofs.Ytdpaffnpedcmpab
open Go.RowKit

/-- A space all of whose memory is younger than w0, in a world that leaves all that is older as it was. -/
def Held (w0 w : World) (sb : Nat) (ws : List Int) (kd : List PK) : Prop := ∃ F, IsSpace w sb F ws kd ∧ WF kd ∧ Keep [] w0 w ∧ ∀ k, k ∈ F → w0.heap.size ≤ k
theorem Held.keep0 {w0 w w' : World} {sb : Nat} {ws : List Int} {kd : List PK} (h : Held w0 w sb ws kd) (K : Keep [] w w') : Held w0 w' sb ws kd := by
  obtain ⟨F, h1, h2, h3, h4⟩ := h
  exact ⟨F, h1.keep0 K, h2, h3.trans K, h4⟩
theorem Held.K {w0 w : World} {sb : Nat} {ws : List Int} {kd : List PK} (h : Held w0 w sb ws kd) : Keep [] w0 w := by
  obtain ⟨F, h1, h2, h3, h4⟩ := h; exact h3
theorem Held.wf {w0 w : World} {sb : Nat} {ws : List Int} {kd : List PK} (h : Held w0 w sb ws kd) : WF kd := by
  obtain ⟨F, h1, h2, h3, h4⟩ := h; exact h2
theorem Held.len {w0 w : World} {sb : Nat} {ws : List Int} {kd : List PK} (h : Held w0 w sb ws kd) : ws.length = 64 * kd.length := by
  obtain ⟨F, h1, h2, h3, h4⟩ := h; exact h1.len
theorem Held.c0 {w0 w : World} {sb : Nat} {ws : List Int} {kd : List PK} (h : Held w0 w sb ws kd) : ∃ ab, w.cell? ⟨sb, 0, none⟩ = some (.pointer (some ⟨ab, 0, none⟩)) := by
  obtain ⟨F, ⟨L, h⟩, _⟩ := h; exact ⟨_, h.c0⟩
theorem Held.c1 {w0 w : World} {sb : Nat} {ws : List Int} {kd : List PK} (h : Held w0 w sb ws kd) : ∃ pb, w.cell? ⟨sb, 1, none⟩ = some (.pointer (some ⟨pb, 0, none⟩)) := by
  obtain ⟨F, ⟨L, h⟩, _⟩ := h; exact ⟨_, h.c1⟩
theorem Held.step {w0 w w' : World} {sb : Nat} {F F' : List Nat} {ws : List Int} {kd : List PK} (h1 : IsSpace w' sb F' ws kd) (h2 : WF kd) (hK0 : Keep [] w0 w) (hF : ∀ k, k ∈ F → w0.heap.size ≤ k) (hK : Keep F w w') (hG : Grows w F F') : Held w0 w' sb ws kd := by
  have := hK0.size
  refine ⟨F', h1, h2, (hK0.mono (by simp)).trans hK |>.drop (fun k e hlt => by have := hF k e; omega), fun k e => ?_⟩
  rcases hG k e with e | e
  · exact hF k e
  · omega

theorem hnew (n : Nat) (w0 w : World) (hK : Keep [] w0 w) (h1 : 1 ≤ n) (h2 : n ≤ 256) :
    Calls Try.prog 20 #[.int .i64 n] w fun e w' => ∃ sb, e = .returned (.tuple #[.pointer (some ⟨sb, 0, none⟩), .int .i64 0]) ∧ Held w0 w' sb (zeros (64 * n)) (freshK n) := by
  refine (snew_ok n w h1 h2).mono ?_
  rintro e w' ⟨sb, F, rfl, hS, hK1, _, hF⟩
  have := hK.size
  exact ⟨sb, rfl, F, hS, freshK_wf n h1 h2, hK.trans hK1, fun k e => by have := hF k e; omega⟩
theorem halloc_yes {w0 : World} (sb a b : Nat) (n : Int) (ws : List Int) (kd kd' : List PK) (w : World) (h : Held w0 w sb ws kd) (hr : AllocR kd n (some (a, kd'))) (hb : blockI n = b) :
    Calls Try.prog 24 #[.pointer (some ⟨sb, 0, none⟩), .int .i64 n] w fun e w' => e = .returned (.tuple #[.int .i64 a, .int .i64 0]) ∧ Held w0 w' sb (fill0 ws a b) kd' := by
  obtain ⟨F, h1, h2, h3, h4⟩ := h
  refine (salloc_yes sb a b n F ws kd kd' w h1 h2 hr hb).mono ?_
  rintro e w' ⟨F', rfl, hS, hK, hG⟩
  obtain ⟨_, _, _, hw', _⟩ := hr.spec h2
  exact ⟨rfl, Held.step hS hw' h3 h4 hK hG⟩
theorem halloc_no {w0 : World} (sb : Nat) (n : Int) (ws : List Int) (kd : List PK) (w : World) (h : Held w0 w sb ws kd) (hr : AllocR kd n none) (hb : blockI n ≠ 0) :
    Calls Try.prog 24 #[.pointer (some ⟨sb, 0, none⟩), .int .i64 n] w fun e w' => e = .returned (.tuple #[.int .i64 0, .int .i64 3]) ∧ Held w0 w' sb ws kd := by
  obtain ⟨F, h1, h2, h3, h4⟩ := h
  refine (salloc_no sb n F ws kd w h1 h2 hr hb).mono ?_
  rintro e w' ⟨rfl, hK⟩
  exact ⟨rfl, F, h1.keep0 hK, h2, h3.trans hK, h4⟩
theorem halloc_arg {w0 : World} (sb : Nat) (n : Int) (ws : List Int) (kd : List PK) (w : World) (h : Held w0 w sb ws kd) (hb : blockI n = 0) :
    Calls Try.prog 24 #[.pointer (some ⟨sb, 0, none⟩), .int .i64 n] w fun e w' => e = .returned (.tuple #[.int .i64 0, .int .i64 1]) ∧ Held w0 w' sb ws kd := by
  refine (salloc_arg sb n w hb).mono ?_
  rintro e w' ⟨rfl, hK⟩
  exact ⟨rfl, h.keep0 hK⟩
theorem hfree_no {w0 : World} (sb : Nat) (a : Int) (ws : List Int) (kd : List PK) (w : World) (h : Held w0 w sb ws kd) (ho : ∀ s n, findI kd a = some (s, n) → (s : Int) ≠ a) :
    Calls Try.prog 10 #[.pointer (some ⟨sb, 0, none⟩), .int .i64 a] w fun e w' => e = .returned (.int .i64 2) ∧ Held w0 w' sb ws kd := by
  obtain ⟨F, h1, h2, h3, h4⟩ := h
  refine (sfree_no sb F a ws kd w h1 h2 ho).mono ?_
  rintro e w' ⟨rfl, hK⟩
  exact ⟨rfl, F, h1.keep0 hK, h2, h3.trans hK, h4⟩
theorem hfree_yes {w0 : World} (sb a m : Nat) (ws : List Int) (kd kd' : List PK) (w : World) (h : Held w0 w sb ws kd) (hf : findN kd a = some (a, m)) (hr : FreeR kd a kd') :
    Calls Try.prog 10 #[.pointer (some ⟨sb, 0, none⟩), .int .i64 a] w fun e w' => e = .returned (.int .i64 0) ∧ Held w0 w' sb ws kd' := by
  obtain ⟨F, h1, h2, h3, h4⟩ := h
  refine (sfree_yes sb a m F ws kd kd' w h1 h2 hf hr).mono ?_
  rintro e w' ⟨rfl, hS, hK⟩
  exact ⟨rfl, Held.step hS (hr.spec h2 hf).1 h3 h4 hK (Grows.refl _ _)⟩
theorem hfind {w0 : World} (sb : Nat) (a : Int) (ws : List Int) (kd : List PK) (w : World) (h : Held w0 w sb ws kd) :
    Calls Try.prog 28 #[.pointer (some ⟨sb, 0, none⟩), .int .i64 a] w fun e w' => e = .returned (foundV (findI kd a)) ∧ Held w0 w' sb ws kd := by
  obtain ⟨F, h1, h2, h3, h4⟩ := h
  refine (sfind_any sb F a ws kd w h1 h2).mono ?_
  rintro e w' ⟨rfl, hK⟩
  exact ⟨rfl, F, h1.keep0 hK, h2, h3.trans hK, h4⟩
/-- The arena's own calls, through the space. -/
theorem hload {w0 : World} (sb ab a : Nat) (ws : List Int) (kd : List PK) (w : World) (h : Held w0 w sb ws kd) (hc : w.cell? ⟨sb, 0, none⟩ = some (.pointer (some ⟨ab, 0, none⟩))) (ha : a < ws.length) :
    Calls Try.prog 32 #[.pointer (some ⟨ab, 0, none⟩), .int .i64 a] w fun e w' => e = .returned (.tuple #[.int .i64 (ws[a]?.getD 0), .int .i64 0]) ∧ w = w' := by
  obtain ⟨F, ⟨L, h1⟩, h2, h3, h4⟩ := h
  have e := h1.c0
  rw [hc] at e
  have e2 : ab = L.ab := by injection e with e; injection e with e; injection e with e; injection e
  subst e2
  exact load_yes L.ab L.ag a ws w h1.arena ha
theorem hstore {w0 : World} (sb ab a : Nat) (x : Int) (ws : List Int) (kd : List PK) (w : World) (h : Held w0 w sb ws kd) (hc : w.cell? ⟨sb, 0, none⟩ = some (.pointer (some ⟨ab, 0, none⟩))) (ha : a < ws.length) :
    Calls Try.prog 27 #[.pointer (some ⟨ab, 0, none⟩), .int .i64 a, .int .i64 x] w fun e w' => e = .returned (.int .i64 0) ∧ Held w0 w' sb (ws.set a x) kd := by
  obtain ⟨F, ⟨L, h1⟩, h2, h3, h4⟩ := h
  have e := h1.c0
  rw [hc] at e
  have e2 : ab = L.ab := by injection e with e; injection e with e; injection e with e; injection e
  subst e2
  refine (store_yes L.ab L.ag a x ws w h1.arena ha).mono ?_
  rintro e w' ⟨rfl, hA, hK⟩
  have f := h1.f.2.2.1
  exact ⟨rfl, Held.step (F := F) (F' := F) ⟨L, h1.words hK hA (by simp)⟩ h2 h3 h4 (hK.mono (fun k e => by simp at e; subst e; exact f)) (Grows.refl _ _)⟩
/-- The first block of a new space. -/
theorem fresh_small (N c : Nat) (n : Int) (hN : 2 ≤ N) (hc : classI n = c) : AllocR (freshK N) n (some (64, (freshK N).set 1 (.small c ((offs (roomOf c)).set 0 true)))) := by
  have := AllocR.new (kd := freshK N) (n := n) c 1 hc (nextR_none _ _ _ (fun t _ _ => by rw [hasL_get, freshK_has N c t (by omega)]; simp)) (by rw [freshK_taken N (by omega)]; exact fresh_run N 1 (by omega) (by omega))
  exact this
theorem fresh_large (N k : Nat) (n : Int) (hk : 1 ≤ k) (hN : k < N) (hc : classI n = -1) (hp : pagesI n = k) : AllocR (freshK N) n (some (64, putParts (freshK N) 1 k)) := by
  have := AllocR.large (kd := freshK N) (n := n) k 1 hc hp hk (by rw [freshK_taken N (by omega)]; exact fresh_run N k hk hN)
  exact this
/-- Whatever is asked of a new space. -/
theorem fresh_alloc (N b : Nat) (n : Int) (hb : blockI n = b) (hb1 : 1 ≤ b) (hN : b ≤ 64 * (N - 1)) (hN2 : 2 ≤ N) : ∃ kd', AllocR (freshK N) n (some (64, kd')) := by
  rcases class_lt n with hc | ⟨c, hc, _⟩
  · obtain ⟨k, hk⟩ := Int.eq_ofNat_of_zero_le (pages_le n).1
    have e := block_none n hc
    rw [hk] at e
    exact ⟨_, fresh_large N k n (by omega) (by omega) hc hk⟩
  · exact ⟨_, fresh_small N c n hN2 hc⟩

set_option maxHeartbeats 400000 in
theorem err_any (n : Int) (w : World) :
    Calls Try.prog 7 #[.int .i64 n] w fun e w' => e = .returned (.int .i64 n) ∧ w = w' := by
  go_enter Try.func7, Try.ntmps7
  go_wp2
  go_ret
  exact ⟨rfl, rfl⟩

theorem awake_used : usedK ((freshK 2).set 1 (.small 1 ((offs (roomOf 1)).set 0 true))) = 4 := by decide +kernel
end Go.Proofs.Ytdpaffnpedcmpab
