/-
  Alloc of package space, whatever it is given.
-/
import Derived.Test.YtdpaffnpedcmpabSpaceAlloc
namespace Go.Proofs.Ytdpaffnpedcmpab
open Go.RowKit

set_option maxHeartbeats 2000000 in
/-- A page of the class has room, told by what looking for it answers. -/
theorem tks_yes (sb c p i : Nat) (xs : List Bool) (F : List Nat) (ws : List Int) (ts : List Bool) (kd : List PK) (w : World) (hc : c < 5)
    (hroom : Calls Try.prog 69 #[.pointer (some ⟨sb, 0, none⟩), .int .i64 c] w fun e w' => ∃ L F1, e = .returned (.tuple #[.int .i64 p, .int .i64 0]) ∧ SpAt w' sb L F1 ws ts kd ∧ Keep F w w' ∧ Grows w F F1)
    (hk : kat kd p = .small c xs) (hx : xs.length = roomOf c) (hi : nextR xs 0 false = i) (hil : i < xs.length) (hp2 : p ≤ 256) :
    Calls Try.prog 60 #[.pointer (some ⟨sb, 0, none⟩), .int .i64 c] w fun e w' => ∃ L F1, e = .returned (.tuple #[.int .i64 ((64 * p + i * sz c : Nat) : Int), .int .i64 0]) ∧ SpAt w' sb L F1 ws ts (kd.set p (.small c (xs.set i true))) ∧ Keep F w w' ∧ Grows w F F1 := by
  obtain ⟨z1, z2, z3, z4, z5, z6, z7⟩ := sz_facts c hc
  have HR := (show Hid (Calls Try.prog 69 #[.pointer (some ⟨sb, 0, none⟩), .int .i64 c] w fun e w' => ∃ L F1, e = .returned (.tuple #[.int .i64 p, .int .i64 0]) ∧ SpAt w' sb L F1 ws ts kd ∧ Keep F w w' ∧ Grows w F F1) from hroom)
  have HK := (show Hid (kat kd p = .small c xs) from hk)
  have HPL := (show Hid (p < kd.length) from kat_lt kd p (by rw [hk]; simp))
  have HI := (show Hid (nextR xs 0 false = i) from hi)
  have HIL := (show Hid (i < xs.length) from hil)
  have HZ := (show Hid (wordsOf c = sz c) from z1)
  obtain ⟨n, hn⟩ : ∃ n, kd.length = n := ⟨_, rfl⟩
  have HN := (show Hid (kd.length = n) from hn)
  have hpn : p < n := by rw [← hn]; exact HPL.out
  obtain ⟨s, hs⟩ : ∃ s, sz c = s := ⟨_, rfl⟩
  have HSZ := (show Hid (sz c = s) from hs)
  rw [hs] at z2 z4 z3 ⊢
  have hi32 : i ≤ 32 := by omega
  obtain ⟨y, hy⟩ : ∃ y : Nat, i * s = y := ⟨_, rfl⟩
  have hyb : y ≤ 32 * 32 := by rw [← hy]; exact Nat.mul_le_mul hi32 z4
  have hyi : (i : Int) * (s : Int) = y := by rw [← hy]; exact (Int.natCast_mul i s).symm
  rw [hy]
  have hyw : IntKind.i64.wrap ((i : Int) * s) = y := by rw [hyi]; exact IntWalk.i64_in _ (by omega)
  have HA := (show Hid ((p : Int) * 64 + y = ((64 * p + y : Nat) : Int)) from by show _ = _; omega)
  clear hroom hk hi hil hn hs hx z1 z2 z3 z5 z6 z7 hy
  go_enter Try.func60, Try.ntmps60
  go_wp2_with fail
  refine HR.out.mono ?_
  rintro e w1 ⟨L, F1, rfl, hS1, hK1, hG1⟩
  have hc2 := hS1.c2
  have hcs := hS1.cs HPL.out
  have hP := hS1.page p c xs HK.out
  rw [HK.out] at hcs
  rw [HN.out] at hc2
  rw [HZ.out, HSZ.out] at hP
  have hcs' : w1.cell? ⟨L.gs, p, none⟩ = some (.pointer (some ⟨(L.P p).1, 0, none⟩)) := hcs
  have HS1 := (show Hid (SpAt w1 sb L F1 ws ts kd) from hS1)
  have HG1 := (show Hid (Grows w F F1) from hG1)
  have hsz := hK1.size
  obtain ⟨q1, hq1⟩ : ∃ q1, (L.P p).1 = q1 := ⟨_, rfl⟩
  obtain ⟨q2, hq2⟩ : ∃ q2, (L.P p).2.1 = q2 := ⟨_, rfl⟩
  obtain ⟨q3, hq3⟩ : ∃ q3, (L.P p).2.2 = q3 := ⟨_, rfl⟩
  have HQ := (show Hid ((L.P p).1 = q1 ∧ (L.P p).2.1 = q2 ∧ (L.P p).2.2 = q3) from ⟨hq1, hq2, hq3⟩)
  rw [hq1] at hcs'
  rw [hq1, hq2, hq3] at hP
  clear hS1 hcs hG1 hq1 hq2 hq3
  go_wp2_with (first | (go_at_call 70; refine (ktake_yes q1 q2 q3 i _ _ _ hP HI.out HIL.out).mono ?_; rintro e w3 ⟨rfl, hP3, hK3⟩; have hq3 := HQ.out; have hS3 := HS1.out.inner HK.out (by rw [hq3.2.2]; exact hK3) (by rw [hq3.1, hq3.2.1, hq3.2.2, HZ.out, HSZ.out]; exact hP3); have hc23 := hS3.c2; rw [List.length_set, HN.out] at hc23; have hcs3 := hS3.cs (p := p) (by rw [List.length_set]; exact HPL.out); rw [kat_set_same _ _ _ HPL.out] at hcs3; have hcs4 : w3.cell? ⟨L.gs, p, none⟩ = some (.pointer (some ⟨(L.P p).1, 0, none⟩)) := hcs3; rw [hq3.1] at hcs4; clear hcs3) | (go_at_call 64; refine (kwords_any q1 q2 q3 _ _ _ hP3).mono ?_; rintro e w' ⟨rfl, rfl⟩))
  have hq3F : q3 ∈ F1 := by have := (HS1.out.fp p c xs HK.out).2.2; rw [hq3.2.2] at this; exact this
  have HK4 := (show Hid (Keep F w w3) from ((hK1.mono (T := q3 :: F) (fun k e => List.mem_cons_of_mem _ e)).trans (hK3.mono (by simp))).drop (fun k e hlt => by
    rcases List.mem_cons.1 e with rfl | e
    · rcases HG1.out _ hq3F with h | h
      · exact h
      · omega
    · exact e))
  have HS3 := (show Hid (SpAt w3 sb L F1 ws ts (kd.set p (.small c (xs.set i true)))) from hS3)
  clear hS3 hK3 hK1 hP3
  all_goals
    go_ret2
    exact ⟨L, F1, by rw [← HA.out]; rfl, HS3.out, HK4.out, HG1.out⟩
set_option maxHeartbeats 1000000 in
theorem tks_no (sb c : Nat) (w : World)
    (hroom : Calls Try.prog 69 #[.pointer (some ⟨sb, 0, none⟩), .int .i64 c] w fun e w' => e = .returned (.tuple #[.int .i64 0, .int .i64 3]) ∧ Keep [] w w') :
    Calls Try.prog 60 #[.pointer (some ⟨sb, 0, none⟩), .int .i64 c] w fun e w' => e = .returned (.tuple #[.int .i64 0, .int .i64 3]) ∧ Keep [] w w' := by
  have HR := (show Hid (Calls Try.prog 69 #[.pointer (some ⟨sb, 0, none⟩), .int .i64 c] w fun e w' => e = .returned (.tuple #[.int .i64 0, .int .i64 3]) ∧ Keep [] w w') from hroom)
  clear hroom
  go_enter Try.func60, Try.ntmps60
  go_wp2_with (go_at_call 69; refine HR.out.mono ?_; rintro e w1 ⟨rfl, hK1⟩)
  go_ret2
  exact ⟨rfl, hK1⟩

set_option maxHeartbeats 1000000 in
theorem tkl_no (sb k : Nat) (L : Lay) (F : List Nat) (ws : List Int) (ts : List Bool) (kd : List PK) (w : World) (h : SpAt w sb L F ws ts kd) (hk : 1 ≤ k) (hk2 : k ≤ 16) (hr : runR ts 0 k = -1) :
    Calls Try.prog 61 #[.pointer (some ⟨sb, 0, none⟩), .int .i64 k] w fun e w' => e = .returned (.tuple #[.int .i64 0, .int .i64 3]) ∧ Keep [] w w' := by
  have hc1 := h.c1
  have hP := h.pages
  have HR := (show Hid (runR ts 0 k = -1) from hr)
  clear h hr
  go_enter Try.func61, Try.ntmps61
  go_wp2_with (go_at_call 71; refine (ptake_no L.pb L.b L.g k ts _ hP hk (by omega) HR.out).mono ?_; rintro e w' ⟨rfl, rfl⟩)
  go_ret2
  exact ⟨rfl, Keep.refl _ _⟩
set_option maxHeartbeats 2000000 in
theorem tkl_yes (sb k p : Nat) (L : Lay) (F : List Nat) (ws : List Int) (kd : List PK) (w : World) (h : SpAt w sb L F ws (takenL kd) kd) (hk : 1 ≤ k) (hk2 : k ≤ 16) (hr : runR (takenL kd) 0 k = p) (hcl : Clear (takenL kd) p k) (hn2 : kd.length ≤ 256) :
    Calls Try.prog 61 #[.pointer (some ⟨sb, 0, none⟩), .int .i64 k] w fun e w' => ∃ L F1, e = .returned (.tuple #[.int .i64 ((64 * p : Nat) : Int), .int .i64 0]) ∧ SpAt w' sb L F1 ws (takenL (putParts kd p k)) (putParts kd p k) ∧ Keep F w w' ∧ Grows w F F1 := by
  obtain ⟨hpl, hfree⟩ := clear_free hcl
  have HT := (show Hid (putR (takenL kd) p k true = takenL (putParts kd p k)) from (taken_put kd p k hpl).symm)
  have HB := (show Hid (bigL (putParts kd p k) = (bigL kd).set p k) from big_put kd p k hk hcl)
  have HS := (show Hid (∀ q, kat (putParts kd p k) q = kat kd q ∨ (∀ c xs, kat (putParts kd p k) q ≠ .small c xs) ∧ (∀ c xs, kat kd q ≠ .small c xs)) from fun q => by
    rw [putParts_at kd p k q hpl]
    by_cases e : p ≤ q ∧ q < p + k
    · right; rw [if_pos e, hfree q e.1 e.2]; simp
    · left; rw [if_neg e])
  have HL := (show Hid (p < kd.length) from by show _ < _; omega)
  have hc1 := h.c1
  have hP := h.pages
  have HR := (show Hid (runR (takenL kd) 0 k = p) from hr)
  have HC := (show Hid (Clear (takenL kd) p k) from hcl)
  obtain ⟨n, hn⟩ : ∃ n, kd.length = n := ⟨_, rfl⟩
  have HN := (show Hid (kd.length = n) from hn)
  have hpn : p < n := by omega
  rw [hn] at hn2
  have H := (show Hid (SpAt w sb L F ws (takenL kd) kd) from h)
  have HA := (show Hid ((p : Int) * 64 = ((64 * p : Nat) : Int)) from by show _ = _; omega)
  clear hpl hfree hr hcl h hn
  go_enter Try.func61, Try.ntmps61
  go_wp2_with (first | (go_at_call 71; refine (ptake_yes L.pb L.b L.g k p _ _ hP hk HR.out HC.out.1).mono ?_; rintro e w1 ⟨rfl, hP1, hK1⟩; have hS1 := H.out.turn hK1 hP1; rw [HT.out] at hS1; have hc3 := hS1.c3; rw [HN.out] at hc3; have hcl := hS1.cl HL.out; have hfl := hS1.fl p; have HS2 := (show Hid (SpAt (w1.setCell ⟨L.gl, p, none⟩ (.int .i64 (k : Int))) sb L F ws (takenL (putParts kd p k)) (putParts kd p k)) from hS1.larger (putParts_length kd p k) HB.out HS.out); have f := hS1.f; have HK2 := (show Hid (Keep F w (w1.setCell ⟨L.gl, p, none⟩ (.int .i64 (k : Int)))) from (hK1.mono (fun x e => by simp at e; subst e; exact f.2.2.2.2.2.1)).trans (Keep.setCell _ _ f.2.2.2.2.2.2.2)); clear hS1 hP1 hK1 f))
  go_ret2
  exact ⟨L, F, by rw [← HA.out]; rfl, HS2.out, HK2.out, Grows.refl _ _⟩

set_option maxHeartbeats 1000000 in
theorem take_small (sb c : Nat) (n : Int) (w : World) (v1 v2 : Int) (Q : World → Prop) (hc : classI n = c) (hc5 : c < 5)
    (ht : ∀ w', Keep [] w w' → Calls Try.prog 60 #[.pointer (some ⟨sb, 0, none⟩), .int .i64 c] w' fun e w'' => e = .returned (.tuple #[.int .i64 v1, .int .i64 v2]) ∧ Q w'') :
    Calls Try.prog 43 #[.pointer (some ⟨sb, 0, none⟩), .int .i64 n] w fun e w' => e = .returned (.tuple #[.int .i64 v1, .int .i64 v2]) ∧ Q w' := by
  have HC := (show Hid (classI n = c) from hc)
  have HT := (show Hid (∀ w', Keep [] w w' → Calls Try.prog 60 #[.pointer (some ⟨sb, 0, none⟩), .int .i64 c] w' fun e w'' => e = .returned (.tuple #[.int .i64 v1, .int .i64 v2]) ∧ Q w'') from ht)
  have hd : decide ((0 : Int) ≤ (c : Int)) = true := by rw [decide_eq_true_iff]; omega
  clear hc ht
  go_enter Try.func43, Try.ntmps43
  go_wp2_with (first | (go_at_call 57; refine (class_any _ _).mono ?_; rw [HC.out]; rintro e w1 ⟨rfl, hK1⟩) | (go_at_call 60; refine (HT.out _ hK1).mono ?_; rintro e w3 ⟨rfl, hQ⟩))
  go_ret2
  exact ⟨rfl, hQ⟩
set_option maxHeartbeats 1000000 in
theorem take_large (sb k : Nat) (n : Int) (w : World) (v1 v2 : Int) (Q : World → Prop) (hc : classI n = -1) (hk : pagesI n = k)
    (ht : ∀ w', Keep [] w w' → Calls Try.prog 61 #[.pointer (some ⟨sb, 0, none⟩), .int .i64 k] w' fun e w'' => e = .returned (.tuple #[.int .i64 v1, .int .i64 v2]) ∧ Q w'') :
    Calls Try.prog 43 #[.pointer (some ⟨sb, 0, none⟩), .int .i64 n] w fun e w' => e = .returned (.tuple #[.int .i64 v1, .int .i64 v2]) ∧ Q w' := by
  have HC := (show Hid (classI n = -1) from hc)
  have HP := (show Hid (pagesI n = k) from hk)
  have HT := (show Hid (∀ w', Keep [] w w' → Calls Try.prog 61 #[.pointer (some ⟨sb, 0, none⟩), .int .i64 k] w' fun e w'' => e = .returned (.tuple #[.int .i64 v1, .int .i64 v2]) ∧ Q w'') from ht)
  clear hc hk ht
  go_enter Try.func43, Try.ntmps43
  go_wp2_with (first | (go_at_call 57; refine (class_any _ _).mono ?_; rw [HC.out]; rintro e w1 ⟨rfl, hK1⟩) | (go_at_call 59; refine (pages_any _ _).mono ?_; rw [HP.out]; rintro e w2 ⟨rfl, hK2⟩) | (go_at_call 61; refine (HT.out _ (hK1.trans hK2)).mono ?_; rintro e w3 ⟨rfl, hQ⟩))
  go_ret2
  exact ⟨rfl, hQ⟩

end Go.Proofs.Ytdpaffnpedcmpab
