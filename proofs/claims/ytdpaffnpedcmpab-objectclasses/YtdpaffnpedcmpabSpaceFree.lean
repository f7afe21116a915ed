/-
  Free of package space.
-/
import Derived.Test.YtdpaffnpedcmpabSpaceAll
namespace Go.Proofs.Ytdpaffnpedcmpab
open Go.RowKit

set_option maxHeartbeats 2000000 in
theorem frs_one (sb c p i : Nat) (xs : List Bool) (L : Lay) (F : List Nat) (ws : List Int) (ts : List Bool) (kd : List PK) (w : World) (h : SpAt w sb L F ws ts kd) (hk : kat kd p = .small c xs) (hi : hasR xs i = true) (hn : noneB (xs.set i false) = false) :
    Calls Try.prog 29 #[.pointer (some ⟨sb, 0, none⟩), .int .i64 p, .int .i64 i] w fun e w' => e = .returned (.tuple #[]) ∧ SpAt w' sb L F ws ts (kd.set p (.small c (xs.set i false))) ∧ Keep F w w' := by
  have HPL := (show Hid (p < kd.length) from kat_lt kd p (by rw [hk]; simp))
  have HK := (show Hid (kat kd p = .small c xs) from hk)
  have HI := (show Hid (hasR xs i = true) from hi)
  have HE := (show Hid (noneB (xs.set i false) = false) from hn)
  have HS := (show Hid (SpAt w sb L F ws ts kd) from h)
  obtain ⟨n, hn'⟩ : ∃ n, kd.length = n := ⟨_, rfl⟩
  have HN := (show Hid (kd.length = n) from hn')
  have hpn : p < n := by rw [← hn']; exact HPL.out
  have hc2 := h.c2
  have hcs : w.cell? ⟨L.gs, p, none⟩ = some (.pointer (some ⟨(L.P p).1, 0, none⟩)) := by have := h.cs HPL.out; rw [hk] at this; exact this
  have hP := h.page p c xs hk
  have hf := (h.fp p c xs hk).2.2
  rw [hn'] at hc2
  obtain ⟨q1, hq1⟩ : ∃ q1, (L.P p).1 = q1 := ⟨_, rfl⟩
  obtain ⟨q2, hq2⟩ : ∃ q2, (L.P p).2.1 = q2 := ⟨_, rfl⟩
  obtain ⟨q3, hq3⟩ : ∃ q3, (L.P p).2.2 = q3 := ⟨_, rfl⟩
  have HQ := (show Hid ((L.P p).1 = q1 ∧ (L.P p).2.1 = q2 ∧ (L.P p).2.2 = q3) from ⟨hq1, hq2, hq3⟩)
  rw [hq1] at hcs
  rw [hq1, hq2, hq3] at hP
  rw [hq3] at hf
  obtain ⟨s, hs⟩ : ∃ s, wordsOf c = s := ⟨_, rfl⟩
  have HW := (show Hid (wordsOf c = s) from hs)
  rw [hs] at hP
  clear h hk hi hn hn' hq1 hq2 hq3 hs
  go_enter Try.func29, Try.ntmps29
  go_wp2_with (first | (go_at_call 50; refine (kgive_yes q1 q2 q3 i _ _ _ hP HI.out).mono ?_; rintro e w3 ⟨rfl, hP3, hK3⟩; have hq3 := HQ.out; have hS3 := HS.out.inner HK.out (by rw [hq3.2.2]; exact hK3) (by rw [hq3.1, hq3.2.1, hq3.2.2, HW.out]; exact hP3); have hc23 := hS3.c2; rw [List.length_set, HN.out] at hc23; have hcs3 := hS3.cs (p := p) (by rw [List.length_set]; exact HPL.out); rw [kat_set_same _ _ _ HPL.out] at hcs3; have hcs4 : w3.cell? ⟨L.gs, p, none⟩ = some (.pointer (some ⟨(L.P p).1, 0, none⟩)) := hcs3; rw [hq3.1] at hcs4; clear hcs3) | (go_at_call 51; refine (kempty_any q1 q2 q3 _ _ _ hP3).mono ?_; rw [HE.out]; rintro e w' ⟨rfl, rfl⟩))
  have HK4 := (show Hid (Keep F w w3) from hK3.mono (fun k e => by simp at e; subst e; exact hf))
  go_end0
  exact ⟨rfl, hS3, HK4.out⟩

set_option maxHeartbeats 4000000 in
theorem frs_last (sb c p i : Nat) (xs : List Bool) (L : Lay) (F : List Nat) (ws : List Int) (kd : List PK) (w : World) (h : SpAt w sb L F ws (takenL kd) kd) (hk : kat kd p = .small c xs) (hi : hasR xs i = true) (hn : noneB (xs.set i false) = true) (hp1 : 1 ≤ p) :
    Calls Try.prog 29 #[.pointer (some ⟨sb, 0, none⟩), .int .i64 p, .int .i64 i] w fun e w' => e = .returned (.tuple #[]) ∧ SpAt w' sb L F ws (takenL (kd.set p .free)) (kd.set p .free) ∧ Keep F w w' := by
  have hpl := kat_lt kd p (by rw [hk]; simp)
  have HPL := (show Hid (p < kd.length) from hpl)
  have HK := (show Hid (kat kd p = .small c xs) from hk)
  have HI := (show Hid (hasR xs i = true) from hi)
  have HE := (show Hid (noneB (xs.set i false) = true) from hn)
  have HS := (show Hid (SpAt w sb L F ws (takenL kd) kd) from h)
  have HFB := (show Hid (fullB (takenL kd) p 1 = true) from (fullB_iff _ _ _ (by omega)).2 (fun t a b => by
    obtain rfl : t = p := by omega
    rw [takenL_length, takenL_get, hk]
    exact ⟨hpl, rfl⟩))
  have HPT := (show Hid (putR (takenL kd) p 1 false = takenL (kd.set p .free)) from by show _ = _; rw [putR_one, taken_set]; rfl)
  have HSS := (show Hid ((kd.set p (.small c (xs.set i false))).set p .free = kd.set p .free) from by show _ = _; simp)
  obtain ⟨n, hn'⟩ : ∃ n, kd.length = n := ⟨_, rfl⟩
  have HN := (show Hid (kd.length = n) from hn')
  have hpn : p < n := by rw [← hn']; exact HPL.out
  have hc2 := h.c2
  have hcs : w.cell? ⟨L.gs, p, none⟩ = some (.pointer (some ⟨(L.P p).1, 0, none⟩)) := by have := h.cs HPL.out; rw [hk] at this; exact this
  have hP := h.page p c xs hk
  have hf := (h.fp p c xs hk).2.2
  have f := h.f
  rw [hn'] at hc2
  obtain ⟨q1, hq1⟩ : ∃ q1, (L.P p).1 = q1 := ⟨_, rfl⟩
  obtain ⟨q2, hq2⟩ : ∃ q2, (L.P p).2.1 = q2 := ⟨_, rfl⟩
  obtain ⟨q3, hq3⟩ : ∃ q3, (L.P p).2.2 = q3 := ⟨_, rfl⟩
  have HQ := (show Hid ((L.P p).1 = q1 ∧ (L.P p).2.1 = q2 ∧ (L.P p).2.2 = q3) from ⟨hq1, hq2, hq3⟩)
  rw [hq1] at hcs
  rw [hq1, hq2, hq3] at hP
  rw [hq3] at hf
  obtain ⟨s, hs⟩ : ∃ s, wordsOf c = s := ⟨_, rfl⟩
  have HW := (show Hid (wordsOf c = s) from hs)
  rw [hs] at hP
  clear h hk hi hn hn' hq1 hq2 hq3 hs hpl
  go_enter Try.func29, Try.ntmps29
  go_wp2_with (first | (go_at_call 50; refine (kgive_yes q1 q2 q3 i _ _ _ hP HI.out).mono ?_; rintro e w3 ⟨rfl, hP3, hK3⟩; have hq3 := HQ.out; have hS3 := HS.out.inner HK.out (by rw [hq3.2.2]; exact hK3) (by rw [hq3.1, hq3.2.1, hq3.2.2, HW.out]; exact hP3); have hc23 := hS3.c2; rw [List.length_set, HN.out] at hc23; have hcs3 := hS3.cs (p := p) (by rw [List.length_set]; exact HPL.out); rw [kat_set_same _ _ _ HPL.out] at hcs3; have hcs4 : w3.cell? ⟨L.gs, p, none⟩ = some (.pointer (some ⟨(L.P p).1, 0, none⟩)) := hcs3; rw [hq3.1] at hcs4; clear hcs3; have hfs4 := hS3.fs p; have hS4 := hS3.drop (kat_set_same kd p (.small c (xs.set i false)) HPL.out); rw [HSS.out] at hS4; have hc14 := hS4.c1; have hP4 := hS4.pages) | (go_at_call 51; refine (kempty_any q1 q2 q3 _ _ _ hP3).mono ?_; rw [HE.out]; rintro e w' ⟨rfl, rfl⟩) | (go_at_call 52; refine (pgive_yes L.pb L.b L.g p 1 _ _ hP4 hp1 (by omega) HFB.out).mono ?_; rintro e w5 ⟨rfl, hP5, hK5⟩))
  have hS5 := hS4.turn hK5 hP5
  rw [HPT.out] at hS5
  have HK4 := (show Hid (Keep F w w5) from ((hK3.mono (T := F) (fun k e => by simp at e; subst e; exact hf)).trans (Keep.setCell _ _ f.2.2.2.2.2.2.1)).trans (hK5.mono (fun k e => by simp at e; subst e; exact f.2.2.2.2.2.1)))
  go_end0
  exact ⟨rfl, hS5, HK4.out⟩

set_option maxHeartbeats 4000000 in
theorem frl_yes (sb k p : Nat) (L : Lay) (F : List Nat) (ws : List Int) (kd : List PK) (w : World) (h : SpAt w sb L F ws (takenL kd) kd) (hw : WF kd) (hk : kat kd p = .part 0 k) :
    Calls Try.prog 30 #[.pointer (some ⟨sb, 0, none⟩), .int .i64 p] w fun e w' => e = .returned (.tuple #[]) ∧ SpAt w' sb L F ws (takenL (freeParts kd p k)) (freeParts kd p k) ∧ Keep F w w' := by
  obtain ⟨g1, g2, g3, g4⟩ := hw.part p 0 k hk
  obtain ⟨m1, m2, m3⟩ := hw.part0 hk
  rw [Nat.sub_zero] at g4 m1 m2
  have HB := (show Hid (bigL (freeParts kd p k) = (bigL kd).set p 0) from big_free kd p k g1 g4)
  have HS := (show Hid (∀ q, kat (freeParts kd p k) q = kat kd q ∨ (∀ c xs, kat (freeParts kd p k) q ≠ .small c xs) ∧ (∀ c xs, kat kd q ≠ .small c xs)) from fun q => by
    rw [freeParts_at]
    by_cases e : p ≤ q ∧ q < p + k
    · right
      have := g4 (q - p) (by omega)
      rw [show p + (q - p) = q by omega] at this
      rw [if_pos e, this]; simp
    · left; rw [if_neg e])
  have HFB := (show Hid (fullB (takenL kd) p k = true) from (fullB_iff _ _ _ g1).2 (fun t a b => by
    have := g4 (t - p) (by omega)
    rw [show p + (t - p) = t by omega] at this
    rw [takenL_length, takenL_get, this]
    exact ⟨by omega, rfl⟩))
  have HT := (show Hid (putR (takenL kd) p k false = takenL (freeParts kd p k)) from (taken_free kd p k m2).symm)
  have hc3 := h.c3
  have hcl : w.cell? ⟨L.gl, p, none⟩ = some (.int .i64 k) := by have := h.cl m3; rw [hk] at this; exact this
  have hfl := h.fl p
  have hn2 := hw.len2
  have hS2 := h.larger (freeParts_length kd p k) HB.out HS.out
  have hc12 := hS2.c1
  have hP2 := hS2.pages
  have H2 := (show Hid (SpAt (w.setCell ⟨L.gl, p, none⟩ (.int .i64 0)) sb L F ws (takenL kd) (freeParts kd p k)) from hS2)
  have f := h.f
  obtain ⟨n, hn'⟩ : ∃ n, kd.length = n := ⟨_, rfl⟩
  rw [hn'] at hc3 hn2 m2 m3
  clear h hk hn' hS2 g4 hw
  go_enter Try.func30, Try.ntmps30
  go_wp2_with (first | (go_at_call 52; refine (pgive_yes L.pb L.b L.g p k _ _ hP2 m1 g1 HFB.out).mono ?_; rintro e w5 ⟨rfl, hP5, hK5⟩))
  have hS5 := H2.out.turn hK5 hP5
  rw [HT.out] at hS5
  have HK4 := (show Hid (Keep F w w5) from (Keep.setCell (S := F) w (.int .i64 0) (a := ⟨L.gl, p, none⟩) f.2.2.2.2.2.2.2).trans (hK5.mono (fun k e => by simp at e; subst e; exact f.2.2.2.2.2.1)))
  go_end0
  exact ⟨rfl, hS5, HK4.out⟩

set_option maxHeartbeats 1000000 in
theorem free_no (sb : Nat) (a : Int) (w : World) (o : Option (Nat × Nat)) (hf : Calls Try.prog 28 #[.pointer (some ⟨sb, 0, none⟩), .int .i64 a] w fun e w' => e = .returned (foundV o) ∧ Keep [] w w') (ho : ∀ s n, o = some (s, n) → (s : Int) ≠ a) :
    Calls Try.prog 10 #[.pointer (some ⟨sb, 0, none⟩), .int .i64 a] w fun e w' => e = .returned (.int .i64 2) ∧ Keep [] w w' := by
  cases o with
  | none =>
    have HF := (show Hid (Calls Try.prog 28 #[.pointer (some ⟨sb, 0, none⟩), .int .i64 a] w fun e w' => e = .returned (.tuple #[.int .i64 0, .int .i64 0, .bool false]) ∧ Keep [] w w') from hf)
    clear ho hf
    go_enter Try.func10, Try.ntmps10
    go_wp2_with (go_at_call 28; refine HF.out.mono ?_; rintro e w1 ⟨rfl, hK1⟩)
    go_ret
    exact ⟨rfl, hK1⟩
  | some o =>
    obtain ⟨s, n⟩ := o
    have HF := (show Hid (Calls Try.prog 28 #[.pointer (some ⟨sb, 0, none⟩), .int .i64 a] w fun e w' => e = .returned (.tuple #[.int .i64 s, .int .i64 n, .bool true]) ∧ Keep [] w w') from hf)
    have hne := ho s n rfl
    have hd : decide ((s : Int) = a) = false := by rw [decide_eq_false_iff_not]; exact hne
    clear ho hf
    go_enter Try.func10, Try.ntmps10
    go_wp2_with (go_at_call 28; refine HF.out.mono ?_; rintro e w1 ⟨rfl, hK1⟩)
    go_ret
    exact ⟨rfl, hK1⟩
set_option maxHeartbeats 1000000 in
theorem sfree_nil (a : Int) (w : World) :
    Calls Try.prog 10 #[.pointer none, .int .i64 a] w fun e w' => e = .returned (.int .i64 2) ∧ w = w' := by
  go_enter Try.func10, Try.ntmps10
  go_wp2_with (go_at_call 28; refine (sfind_nil _ _).mono ?_; rintro e w' ⟨rfl, rfl⟩)
  go_ret
  exact ⟨rfl, rfl⟩
set_option maxHeartbeats 2000000 in
theorem free_small (sb a p r i s n gs q1 : Nat) (w : World) (Q : World → Prop) (hf : Calls Try.prog 28 #[.pointer (some ⟨sb, 0, none⟩), .int .i64 a] w fun e w' => e = .returned (foundV (some (a, s))) ∧ Keep [] w w')
    (hc2 : ∀ w', Keep [] w w' → w'.cell? ⟨sb, 2, none⟩ = some (.slice (some ⟨gs, 0, none⟩) n n)) (hcs : ∀ w', Keep [] w w' → w'.cell? ⟨gs, p, none⟩ = some (.pointer (some ⟨q1, 0, none⟩))) (hp : p < n)
    (h1 : (a : Int) / 64 = p) (h2 : (a : Int).tdiv 64 = p) (h3 : (a : Int) % 64 = r) (h4 : (a : Int).tmod 64 = r) (h5 : (r : Int) / s = i) (h6 : (r : Int).tdiv s = i) (hs : (s : Int) ≠ 0) (hb : a ≤ 20000 ∧ i ≤ 64)
    (hq : ∀ w', Keep [] w w' → Calls Try.prog 29 #[.pointer (some ⟨sb, 0, none⟩), .int .i64 p, .int .i64 i] w' fun e w'' => e = .returned (.tuple #[]) ∧ Q w'') :
    Calls Try.prog 10 #[.pointer (some ⟨sb, 0, none⟩), .int .i64 a] w fun e w' => e = .returned (.int .i64 0) ∧ Q w' := by
  have HF := (show Hid (Calls Try.prog 28 #[.pointer (some ⟨sb, 0, none⟩), .int .i64 a] w fun e w' => e = .returned (.tuple #[.int .i64 a, .int .i64 s, .bool true]) ∧ Keep [] w w') from hf)
  have HQ := (show Hid (∀ w', Keep [] w w' → Calls Try.prog 29 #[.pointer (some ⟨sb, 0, none⟩), .int .i64 p, .int .i64 i] w' fun e w'' => e = .returned (.tuple #[]) ∧ Q w'') from hq)
  have H2 := (show Hid (∀ w', Keep [] w w' → w'.cell? ⟨sb, 2, none⟩ = some (.slice (some ⟨gs, 0, none⟩) n n)) from hc2)
  have HS := (show Hid (∀ w', Keep [] w w' → w'.cell? ⟨gs, p, none⟩ = some (.pointer (some ⟨q1, 0, none⟩))) from hcs)
  have hw1 : IntKind.i64.wrap ((r : Int).tdiv s) = i := by rw [h6]; exact IntWalk.i64_in _ (by omega)
  have hw2 : IntKind.i64.wrap ((r : Int) / s) = i := by rw [h5]; exact IntWalk.i64_in _ (by omega)
  clear hf hq hc2 hcs
  go_enter Try.func10, Try.ntmps10
  go_wp2_with (first | (go_at_call 28; refine HF.out.mono ?_; rintro e w1 ⟨rfl, hK1⟩; have hc2 := H2.out _ hK1; have hcs := HS.out _ hK1) | (go_at_call 29; refine (HQ.out _ hK1).mono ?_; rintro e w3 ⟨rfl, hQ⟩))
  go_ret
  exact ⟨rfl, hQ⟩
set_option maxHeartbeats 2000000 in
theorem free_large (sb a p s n gs : Nat) (w : World) (Q : World → Prop) (hf : Calls Try.prog 28 #[.pointer (some ⟨sb, 0, none⟩), .int .i64 a] w fun e w' => e = .returned (foundV (some (a, s))) ∧ Keep [] w w')
    (hc2 : ∀ w', Keep [] w w' → w'.cell? ⟨sb, 2, none⟩ = some (.slice (some ⟨gs, 0, none⟩) n n)) (hcs : ∀ w', Keep [] w w' → w'.cell? ⟨gs, p, none⟩ = some (.pointer none)) (hp : p < n)
    (h1 : (a : Int) / 64 = p) (h2 : (a : Int).tdiv 64 = p) (hb : a ≤ 20000)
    (hq : ∀ w', Keep [] w w' → Calls Try.prog 30 #[.pointer (some ⟨sb, 0, none⟩), .int .i64 p] w' fun e w'' => e = .returned (.tuple #[]) ∧ Q w'') :
    Calls Try.prog 10 #[.pointer (some ⟨sb, 0, none⟩), .int .i64 a] w fun e w' => e = .returned (.int .i64 0) ∧ Q w' := by
  have HF := (show Hid (Calls Try.prog 28 #[.pointer (some ⟨sb, 0, none⟩), .int .i64 a] w fun e w' => e = .returned (.tuple #[.int .i64 a, .int .i64 s, .bool true]) ∧ Keep [] w w') from hf)
  have HQ := (show Hid (∀ w', Keep [] w w' → Calls Try.prog 30 #[.pointer (some ⟨sb, 0, none⟩), .int .i64 p] w' fun e w'' => e = .returned (.tuple #[]) ∧ Q w'') from hq)
  have H2 := (show Hid (∀ w', Keep [] w w' → w'.cell? ⟨sb, 2, none⟩ = some (.slice (some ⟨gs, 0, none⟩) n n)) from hc2)
  have HS := (show Hid (∀ w', Keep [] w w' → w'.cell? ⟨gs, p, none⟩ = some (.pointer none)) from hcs)
  clear hf hq hc2 hcs
  go_enter Try.func10, Try.ntmps10
  go_wp2_with (first | (go_at_call 28; refine HF.out.mono ?_; rintro e w1 ⟨rfl, hK1⟩; have hc2 := H2.out _ hK1; have hcs := HS.out _ hK1) | (go_at_call 30; refine (HQ.out _ hK1).mono ?_; rintro e w3 ⟨rfl, hQ⟩))
  go_ret
  exact ⟨rfl, hQ⟩

/-- Free where no block begins. -/
theorem sfree_no (sb : Nat) (F : List Nat) (a : Int) (ws : List Int) (kd : List PK) (w : World) (h : IsSpace w sb F ws kd) (hw : WF kd) (ho : ∀ s n, findI kd a = some (s, n) → (s : Int) ≠ a) :
    Calls Try.prog 10 #[.pointer (some ⟨sb, 0, none⟩), .int .i64 a] w fun e w' => e = .returned (.int .i64 2) ∧ Keep [] w w' :=
  free_no sb a w _ (sfind_any sb F a ws kd w h hw) ho
/-- Free where one begins. -/
theorem sfree_yes (sb a m : Nat) (F : List Nat) (ws : List Int) (kd kd' : List PK) (w : World) (h : IsSpace w sb F ws kd) (hw : WF kd) (hf : findN kd a = some (a, m)) (hr : FreeR kd a kd') :
    Calls Try.prog 10 #[.pointer (some ⟨sb, 0, none⟩), .int .i64 a] w fun e w' => e = .returned (.int .i64 0) ∧ IsSpace w' sb F ws kd' ∧ Keep F w w' := by
  have hfi : findI kd (a : Int) = some (a, m) := by unfold findI; rw [if_neg (by omega), Int.toNat_natCast]; exact hf
  have hff := sfind_any sb F (a : Int) ws kd w h hw
  rw [hfi] at hff
  obtain ⟨L, h⟩ := h
  have hn2 := hw.len2
  have hfd := hw.found hf
  obtain ⟨p, hp⟩ : ∃ p, a / 64 = p := ⟨_, rfl⟩
  have h1 : (a : Int) / 64 = p := by omega
  have h2 : (a : Int).tdiv 64 = p := by rw [Int.tdiv_eq_ediv_of_nonneg (by omega)]; exact h1
  have hpl : p < kd.length := by omega
  have small : ∀ c xs, kat kd (a / 64) = .small c xs → xs[a % 64 / sz c]?.getD false = true →
      (∀ w', Keep [] w w' → Calls Try.prog 29 #[.pointer (some ⟨sb, 0, none⟩), .int .i64 p, .int .i64 ((a % 64 / sz c : Nat) : Int)] w' fun e w'' => e = .returned (.tuple #[]) ∧ IsSpace w'' sb F ws kd' ∧ Keep F w' w'') →
      Calls Try.prog 10 #[.pointer (some ⟨sb, 0, none⟩), .int .i64 a] w fun e w' => e = .returned (.int .i64 0) ∧ IsSpace w' sb F ws kd' ∧ Keep F w w' := by
    intro c xs hk hx hq
    obtain ⟨hc, hl, _⟩ := hw.small _ c xs hk
    obtain ⟨z1, z2, z3, z4, z5, z6, z7⟩ := sz_facts c hc
    have hi := (sz_word c a hc).2.1
    have hm : m = sz c := by
      rw [find_small kd a c xs hk, if_pos hx] at hf
      simpa using congrArg (fun o => (o.getD (0, 0)).2) hf.symm
    subst hm
    obtain ⟨r, hr2⟩ : ∃ r, a % 64 = r := ⟨_, rfl⟩
    obtain ⟨i, hi2⟩ : ∃ i, r / sz c = i := ⟨_, rfl⟩
    rw [hr2, hi2] at hi hq
    have q1 : (a : Int) % 64 = r := by omega
    have q2 : (a : Int).tmod 64 = r := by rw [Int.tmod_eq_emod_of_nonneg (by omega)]; exact q1
    have q3 : (r : Int) / (sz c : Nat) = i := by rw [← hi2]; rfl
    have q4 : (r : Int).tdiv (sz c : Nat) = i := by rw [Int.tdiv_eq_ediv_of_nonneg (by omega)]; exact q3
    rw [hp] at hk
    refine free_small sb a p r i (sz c) kd.length L.gs (L.P p).1 w (fun w' => IsSpace w' sb F ws kd' ∧ Keep F w w') hff (fun w' hK => (h.keep0 hK).c2) (fun w' hK => ?_) hpl h1 h2 q1 q2 q3 q4 (by omega) (by omega) (fun w' hK => ?_)
    · have := (h.keep0 hK).cs hpl
      rw [hk] at this; exact this
    · refine (hq w' hK).mono ?_
      rintro e w'' ⟨rfl, hS, hK2⟩
      exact ⟨rfl, hS, (hK.mono (by simp)).trans hK2⟩
  have hhas : ∀ c xs, kat kd (a / 64) = .small c xs → xs[a % 64 / sz c]?.getD false = true → hasR xs ((a % 64 / sz c : Nat) : Int) = true := by
    intro c xs hk hx
    obtain ⟨hc, hl, _⟩ := hw.small _ c xs hk
    rw [has_nat xs _ (by rw [hl]; exact (sz_word c a hc).2.1)]; exact hx
  cases hr with
  | one c xs e1 e2 e3 e4 =>
    refine small c xs e1 e2 (fun w' hK => ?_)
    rw [hp] at e1
    refine (frs_one sb c p _ xs L F ws _ kd w' (h.keep0 hK) e1 (hhas c xs (by rw [hp]; exact e1) e2) e4).mono ?_
    rintro e w'' ⟨rfl, hS, hK2⟩
    refine ⟨rfl, ⟨L, ?_⟩, hK2⟩
    have hts : takenL kd = takenL (kd.set p (.small c (xs.set (a % 64 / sz c) false))) := by
      rw [taken_set]
      have : (takenL kd)[p]?.getD false = true := by rw [takenL_get, e1]; rfl
      refine beq_of_getD (by simp) (fun t => ?_)
      by_cases e : t = p
      · subst e; rw [this, bset_same _ _ _ (by rw [takenL_length]; exact hpl)]; rfl
      · rw [bset_other _ _ _ _ (fun e' => e e'.symm)]
    rw [hts] at hS
    rw [hp]; exact hS
  | last c xs e1 e2 e3 e4 =>
    refine small c xs e1 e2 (fun w' hK => ?_)
    rw [hp] at e1
    refine (frs_last sb c p _ xs L F ws kd w' (h.keep0 hK) e1 (hhas c xs (by rw [hp]; exact e1) e2) e4 (by omega)).mono ?_
    rintro e w'' ⟨rfl, hS, hK2⟩
    exact ⟨rfl, ⟨L, by rw [hp]; exact hS⟩, hK2⟩
  | large k e1 e2 =>
    rw [hp] at e1
    refine free_large sb a p m kd.length L.gs w (fun w' => IsSpace w' sb F ws (freeParts kd (a / 64) k) ∧ Keep F w w') hff (fun w' hK => (h.keep0 hK).c2) (fun w' hK => ?_) hpl h1 h2 (by omega) (fun w' hK => ?_)
    · have := (h.keep0 hK).cs hpl
      rw [e1] at this; exact this
    · refine (frl_yes sb k p L F ws kd w' (h.keep0 hK) hw e1).mono ?_
      rintro e w'' ⟨rfl, hS, hK2⟩
      exact ⟨rfl, ⟨L, by rw [hp]; exact hS⟩, (hK.mono (by simp)).trans hK2⟩

end Go.Proofs.Ytdpaffnpedcmpab
