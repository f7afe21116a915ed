/-
  Alloc of package space.
-/
import Derived.Test.YtdpaffnpedcmpabSpaceOps
namespace Go.Proofs.Ytdpaffnpedcmpab
open Go.RowKit

/-- What a space has in memory later on lay there, or is new. -/
def Grows (w : World) (F F' : List Nat) : Prop := ∀ k, k ∈ F' → k ∈ F ∨ w.heap.size ≤ k
theorem Grows.refl (w : World) (F : List Nat) : Grows w F F := fun _ h => .inl h

/-- Page j, as one looks for room of class c. -/
theorem SpAt.look {F : List Nat} {w : World} {sb : Nat} {L : Lay} {ws : List Int} {ts : List Bool} {kd : List PK} (h : SpAt w sb L F ws ts kd) (hw : WF kd) {c j : Nat} (hc : c < 5) (hj : j < kd.length) :
    (w.cell? ⟨L.gs, j, none⟩ = some (.pointer none) ∧ (kat kd j).has c = false) ∨
    (∃ (q1 b g s : Nat) (xs : List Bool), w.cell? ⟨L.gs, j, none⟩ = some (.pointer (some ⟨q1, 0, none⟩)) ∧ IsPage w q1 b g s xs ∧ s ≠ sz c ∧ (kat kd j).has c = false) ∨
    (∃ (q1 b g : Nat) (xs : List Bool), w.cell? ⟨L.gs, j, none⟩ = some (.pointer (some ⟨q1, 0, none⟩)) ∧ IsPage w q1 b g (sz c : Nat) xs ∧ (kat kd j).has c = !allB xs) := by
  have hcs := h.cs hj
  cases e : kat kd j with
  | small d xs =>
    rw [e] at hcs
    obtain ⟨hd, _, _⟩ := hw.small j d xs e
    have hP := h.page j d xs e
    rw [(sz_facts d hd).1] at hP
    by_cases hdc : d = c
    · subst hdc
      exact .inr (.inr ⟨_, _, _, xs, hcs, hP, by simp [PK.has]⟩)
    · refine .inr (.inl ⟨_, _, _, _, xs, hcs, hP, fun e' => hdc (sz_inj d c hd hc e'), by simp [PK.has, hdc]⟩)
  | _ => rw [e] at hcs; exact .inl ⟨hcs, rfl⟩

theorem bool_no {a b : Bool} (h : a = false) (e : a = !b) : b = true := by subst h; cases b <;> simp at e ⊢
theorem bool_yes {a b : Bool} (h : a = true) (e : a = !b) : b = false := by subst h; cases b <;> simp at e ⊢
theorem sizes_at (c : Nat) (h : c < 5) : sizesL[c]?.getD 0 = (sz c : Nat) := (sz_facts c h).1

set_option maxHeartbeats 2000000 in
theorem room_old (sb c p : Nat) (L : Lay) (F : List Nat) (ws : List Int) (ts : List Bool) (kd : List PK) (w : World) (h : SpAt w sb L F ws ts kd) (hw : WF kd) (hc : c < 5) (hp : nextR (hasL c kd) 0 true = p) :
    Calls Try.prog 69 #[.pointer (some ⟨sb, 0, none⟩), .int .i64 c] w fun e w' => e = .returned (.tuple #[.int .i64 p, .int .i64 0]) ∧ Keep [] w w' := by
  obtain ⟨hpl, hpv, hpn⟩ : p < kd.length ∧ (kat kd p).has c = true ∧ ∀ t, t < p → (kat kd t).has c = false := by
    rcases nextR_spec (hasL c kd) true _ 0 rfl with ⟨e, _⟩ | ⟨j, e, _, e2, e3, e4⟩
    · rw [hp] at e; omega
    · obtain rfl : p = j := by rw [hp] at e; omega
      rw [hasL_get] at e3
      rw [hasL_length] at e2
      refine ⟨e2, e3, fun t ht => ?_⟩
      have := e4 t (by omega) ht
      rw [hasL_get] at this
      simpa using this
  obtain ⟨s, hs⟩ : ∃ s, sz c = s := ⟨_, rfl⟩
  have HSZ := (show Hid (sz c = s) from hs)
  have HSL := (show Hid (sizesL[c]?.getD 0 = (s : Nat)) from by show _ = _; rw [sizes_at c hc, hs])
  have hs2 : 2 ≤ s := by rw [← hs]; exact (sz_facts c hc).2.2.1
  obtain ⟨n, hn⟩ : ∃ n, kd.length = n := ⟨_, rfl⟩
  have HN := (show Hid (kd.length = n) from hn)
  have hn2 : n ≤ 256 := by rw [← hn]; exact hw.len2
  rw [hn] at hpl
  have HW := (show Hid (WF kd) from hw)
  have HS := (show Hid (SpAt w sb L F ws ts kd) from h)
  have HPV := (show Hid ((kat kd p).has c = true) from hpv)
  have HPN := (show Hid (∀ t, t < p → (kat kd t).has c = false) from hpn)
  clear hs hn hw h hp hpv hpn
  go_enter Try.func69, Try.ntmps69
  go_wp2_with (go_at_call 58; refine (sizes_any _).mono ?_; rintro e w1 ⟨gz, rfl, hr, hK, hgz⟩; have hx := hr.cell (i := c) hc; rw [HSL.out] at hx; have hS1 := HS.out.keep0 hK; have hc2 := hS1.c2; rw [HN.out] at hc2)
  have HS1 := (show Hid (SpAt w1 sb L F ws ts kd) from hS1)
  clear hS1 hr hx HS
  go_loop [20] (fun i => ∃ j : Nat, i = .int .i64 j ∧ j ≤ p) (fun i => n - (intOf i).toNat)
  case atStart => exact ⟨0, rfl, by omega⟩
  case round =>
    obtain ⟨j, rfl, hj⟩ := hrel
    by_cases hlt : j < p
    · have HF := HPN.out j hlt
      rcases HS1.out.look HW.out hc (j := j) (by rw [HN.out]; omega) with ⟨hcs, _⟩ | ⟨q1, b, g, s', xs, hcs, hP, hne, _⟩ | ⟨q1, b, g, xs, hcs, hP, hh⟩
      · have hd : decide ((0 : Int) = (s : Int)) = false := by rw [decide_eq_false_iff_not]; omega
        clear HF
        go_wp2_with (first | (go_at_call 64; refine (kwords_nil _).mono ?_; rintro e w' ⟨rfl, rfl⟩))
        go_round
        case rel => exact ⟨j + 1, by go_num, by omega⟩
        case measure => simp [intOf]; omega
      · rw [HSZ.out] at hne
        have hd : decide ((s' : Int) = (s : Int)) = false := by rw [decide_eq_false_iff_not]; omega
        clear HF
        go_wp2_with (first | (go_at_call 64; refine (kwords_any q1 b g _ _ _ hP).mono ?_; rintro e w' ⟨rfl, rfl⟩))
        go_round
        case rel => exact ⟨j + 1, by go_num, by omega⟩
        case measure => simp [intOf]; omega
      · rw [HSZ.out] at hP
        have HA := (show Hid (allB xs = true) from bool_no HF hh)
        clear HF hh
        go_wp2_with (first | (go_at_call 64; refine (kwords_any q1 b g _ _ _ hP).mono ?_; rintro e w' ⟨rfl, rfl⟩) | (go_at_call 74; refine (kfull_any q1 b g _ _ _ hP).mono ?_; rw [HA.out]; rintro e w' ⟨rfl, rfl⟩))
        go_round
        case rel => exact ⟨j + 1, by go_num, by omega⟩
        case measure => simp [intOf]; omega
    · obtain rfl : j = p := by omega
      have HF := HPV.out
      rcases HS1.out.look HW.out hc (j := j) (by rw [HN.out]; omega) with ⟨_, hh⟩ | ⟨q1, b, g, s', xs, hcs, hP, hne, hh⟩ | ⟨q1, b, g, xs, hcs, hP, hh⟩
      · rw [HF] at hh; cases hh
      · rw [HF] at hh; cases hh
      · rw [HSZ.out] at hP
        have HA := (show Hid (allB xs = false) from bool_yes HF hh)
        clear HF hh
        go_wp2_with (first | (go_at_call 64; refine (kwords_any q1 b g _ _ _ hP).mono ?_; rintro e w' ⟨rfl, rfl⟩) | (go_at_call 74; refine (kfull_any q1 b g _ _ _ hP).mono ?_; rw [HA.out]; rintro e w' ⟨rfl, rfl⟩))
        go_ret2
        exact ⟨rfl, hK⟩

theorem none_has {c : Nat} {kd : List PK} (h : nextR (hasL c kd) 0 true = -1) : ∀ t, (kat kd t).has c = false := by
  intro t
  rcases nextR_spec (hasL c kd) true _ 0 rfl with ⟨_, e⟩ | ⟨j, e, _⟩
  · rcases Nat.lt_or_ge t kd.length with ht | ht
    · have := e t (by omega) (by rw [hasL_length]; exact ht)
      rw [hasL_get] at this
      simpa using this
    · rw [kat_out kd t ht]; rfl
  · rw [h] at e; omega

set_option maxHeartbeats 2000000 in
theorem room_full (sb c : Nat) (L : Lay) (F : List Nat) (ws : List Int) (ts : List Bool) (kd : List PK) (w : World) (h : SpAt w sb L F ws ts kd) (hw : WF kd) (hc : c < 5) (hpn : ∀ t, (kat kd t).has c = false) (hr : runR ts 0 1 = -1) :
    Calls Try.prog 69 #[.pointer (some ⟨sb, 0, none⟩), .int .i64 c] w fun e w' => e = .returned (.tuple #[.int .i64 0, .int .i64 3]) ∧ Keep [] w w' := by
  have HR := (show Hid (runR ts 0 1 = -1) from hr)
  clear hr
  obtain ⟨s, hs⟩ : ∃ s, sz c = s := ⟨_, rfl⟩
  have HSZ := (show Hid (sz c = s) from hs)
  have HSL := (show Hid (sizesL[c]?.getD 0 = (s : Nat)) from by show _ = _; rw [sizes_at c hc, hs])
  have hs2 : 2 ≤ s := by rw [← hs]; exact (sz_facts c hc).2.2.1
  obtain ⟨n, hn⟩ : ∃ n, kd.length = n := ⟨_, rfl⟩
  have HN := (show Hid (kd.length = n) from hn)
  have hn2 : n ≤ 256 := by rw [← hn]; exact hw.len2
  have HW := (show Hid (WF kd) from hw)
  have HS := (show Hid (SpAt w sb L F ws ts kd) from h)
  have HPN := (show Hid (∀ t, (kat kd t).has c = false) from hpn)
  clear hs hn hw h hpn
  go_enter Try.func69, Try.ntmps69
  go_wp2_with (go_at_call 58; refine (sizes_any _).mono ?_; rintro e w1 ⟨gz, rfl, hr, hK, hgz⟩; have hx := hr.cell (i := c) hc; rw [HSL.out] at hx; have hS1 := HS.out.keep0 hK; have hc2 := hS1.c2; rw [HN.out] at hc2)
  have HS1 := (show Hid (SpAt w1 sb L F ws ts kd) from hS1)
  clear hS1 hr hx HS
  go_loop [20] (fun i => ∃ j : Nat, i = .int .i64 j ∧ j ≤ n) (fun i => n - (intOf i).toNat)
  case atStart => exact ⟨0, rfl, by omega⟩
  case round =>
    obtain ⟨j, rfl, hj⟩ := hrel
    by_cases hlt : j < n
    · have HF := HPN.out j
      rcases HS1.out.look HW.out hc (j := j) (by rw [HN.out]; omega) with ⟨hcs, _⟩ | ⟨q1, b, g, s', xs, hcs, hP, hne, _⟩ | ⟨q1, b, g, xs, hcs, hP, hh⟩
      · have hd : decide ((0 : Int) = (s : Int)) = false := by rw [decide_eq_false_iff_not]; omega
        clear HF
        go_wp2_with (first | (go_at_call 64; refine (kwords_nil _).mono ?_; rintro e w' ⟨rfl, rfl⟩))
        go_round
        case rel => exact ⟨j + 1, by go_num, by omega⟩
        case measure => simp [intOf]; omega
      · rw [HSZ.out] at hne
        have hd : decide ((s' : Int) = (s : Int)) = false := by rw [decide_eq_false_iff_not]; omega
        clear HF
        go_wp2_with (first | (go_at_call 64; refine (kwords_any q1 b g _ _ _ hP).mono ?_; rintro e w' ⟨rfl, rfl⟩))
        go_round
        case rel => exact ⟨j + 1, by go_num, by omega⟩
        case measure => simp [intOf]; omega
      · rw [HSZ.out] at hP
        have HA := (show Hid (allB xs = true) from bool_no HF hh)
        clear HF hh
        go_wp2_with (first | (go_at_call 64; refine (kwords_any q1 b g _ _ _ hP).mono ?_; rintro e w' ⟨rfl, rfl⟩) | (go_at_call 74; refine (kfull_any q1 b g _ _ _ hP).mono ?_; rw [HA.out]; rintro e w' ⟨rfl, rfl⟩))
        go_round
        case rel => exact ⟨j + 1, by go_num, by omega⟩
        case measure => simp [intOf]; omega
    · obtain rfl : j = n := by omega
      have hc1 := HS1.out.c1
      have hP := HS1.out.pages
      go_wp2_with (first | (go_at_call 71; refine (ptake_no L.pb L.b L.g 1 ts _ hP (by omega) (by omega) HR.out).mono ?_; rintro e w' ⟨rfl, rfl⟩))
      go_ret2
      exact ⟨rfl, hK⟩

set_option maxHeartbeats 4000000 in
theorem room_new (sb c p : Nat) (L : Lay) (F : List Nat) (ws : List Int) (kd : List PK) (w : World) (h : SpAt w sb L F ws (takenL kd) kd) (hw : WF kd) (hc : c < 5) (hpn : ∀ t, (kat kd t).has c = false) (hr : runR (takenL kd) 0 1 = p) (hcl : Clear (takenL kd) p 1) :
    Calls Try.prog 69 #[.pointer (some ⟨sb, 0, none⟩), .int .i64 c] w fun e w' => ∃ L' F', e = .returned (.tuple #[.int .i64 p, .int .i64 0]) ∧ SpAt w' sb L' F' ws (takenL (kd.set p (.small c (offs (roomOf c))))) (kd.set p (.small c (offs (roomOf c)))) ∧ Keep F w w' ∧ Grows w F F' := by
  have hpl : p < kd.length := by have := hcl.1; rw [takenL_length] at this; omega
  have HKF := (show Hid (kat kd p = .free) from (clear_free hcl).2 p (by omega) (by omega))
  have HPT := (show Hid (putR (takenL kd) p 1 true = takenL (kd.set p (.small c (offs (roomOf c))))) from by
    show _ = _
    rw [putR_one, taken_set]; rfl)
  have HR := (show Hid (runR (takenL kd) 0 1 = p) from hr)
  have HCL := (show Hid (Clear (takenL kd) p 1) from hcl)
  have HPL := (show Hid (p < kd.length) from hpl)
  clear hr hcl
  obtain ⟨s, hs⟩ : ∃ s, sz c = s := ⟨_, rfl⟩
  have HSZ := (show Hid (sz c = s) from hs)
  have HSL := (show Hid (sizesL[c]?.getD 0 = (s : Nat)) from by show _ = _; rw [sizes_at c hc, hs])
  have hs2 : 2 ≤ s := by rw [← hs]; exact (sz_facts c hc).2.2.1
  obtain ⟨n, hn⟩ : ∃ n, kd.length = n := ⟨_, rfl⟩
  have HN := (show Hid (kd.length = n) from hn)
  have hn2 : n ≤ 256 := by rw [← hn]; exact hw.len2
  have HW := (show Hid (WF kd) from hw)
  have HS := (show Hid (SpAt w sb L F ws (takenL kd) kd) from h)
  have HPN := (show Hid (∀ t, (kat kd t).has c = false) from hpn)
  rw [hn] at hpl
  clear hs hn hw h hpn
  go_enter Try.func69, Try.ntmps69
  go_wp2_with (go_at_call 58; refine (sizes_any _).mono ?_; rintro e w1 ⟨gz, rfl, hr, hK, hgz⟩; have hx := hr.cell (i := c) hc; rw [HSL.out] at hx; have hS1 := HS.out.keep0 hK; have hc2 := hS1.c2; rw [HN.out] at hc2)
  have HS1 := (show Hid (SpAt w1 sb L F ws (takenL kd) kd) from hS1)
  clear hS1 hr hx HS
  go_loop [20] (fun i => ∃ j : Nat, i = .int .i64 j ∧ j ≤ n) (fun i => n - (intOf i).toNat)
  case atStart => exact ⟨0, rfl, by omega⟩
  case round =>
    obtain ⟨j, rfl, hj⟩ := hrel
    by_cases hlt : j < n
    · have HF := HPN.out j
      rcases HS1.out.look HW.out hc (j := j) (by rw [HN.out]; omega) with ⟨hcs, _⟩ | ⟨q1, b, g, s', xs, hcs, hP, hne, _⟩ | ⟨q1, b, g, xs, hcs, hP, hh⟩
      · have hd : decide ((0 : Int) = (s : Int)) = false := by rw [decide_eq_false_iff_not]; omega
        clear HF
        go_wp2_with (first | (go_at_call 64; refine (kwords_nil _).mono ?_; rintro e w' ⟨rfl, rfl⟩))
        go_round
        case rel => exact ⟨j + 1, by go_num, by omega⟩
        case measure => simp [intOf]; omega
      · rw [HSZ.out] at hne
        have hd : decide ((s' : Int) = (s : Int)) = false := by rw [decide_eq_false_iff_not]; omega
        clear HF
        go_wp2_with (first | (go_at_call 64; refine (kwords_any q1 b g _ _ _ hP).mono ?_; rintro e w' ⟨rfl, rfl⟩))
        go_round
        case rel => exact ⟨j + 1, by go_num, by omega⟩
        case measure => simp [intOf]; omega
      · rw [HSZ.out] at hP
        have HA := (show Hid (allB xs = true) from bool_no HF hh)
        clear HF hh
        go_wp2_with (first | (go_at_call 64; refine (kwords_any q1 b g _ _ _ hP).mono ?_; rintro e w' ⟨rfl, rfl⟩) | (go_at_call 74; refine (kfull_any q1 b g _ _ _ hP).mono ?_; rw [HA.out]; rintro e w' ⟨rfl, rfl⟩))
        go_round
        case rel => exact ⟨j + 1, by go_num, by omega⟩
        case measure => simp [intOf]; omega
    · obtain rfl : j = n := by omega
      have hc1 := HS1.out.c1
      have hP := HS1.out.pages
      have hp0 : decide ((p : Int) < 0) = false := by rw [decide_eq_false_iff_not]; omega
      go_wp2_with (first | (go_at_call 71; refine (ptake_yes L.pb L.b L.g 1 p _ _ hP (by omega) HR.out HCL.out.1).mono ?_; rintro e w3 ⟨rfl, hP3, hK3⟩))
      have hS3 := (HS1.out.turn hK3 hP3).keep0 (Keep.drew [] w3)
      rw [HPT.out] at hS3
      have hc3 := hS3.c2
      rw [HN.out] at hc3
      have hK4 := (hK3.trans (Keep.drew [L.g] w3))
      have hne : sb ≠ L.gs := ne_of_role hS3.r0 hS3.r6 (by omega)
      have hne2 : L.gs ≠ sb := fun e => hne e.symm
      clear hc1 hP hP3 hK3 hc2
      go_region_held3 (fun wz => wz.cell? ⟨sb, 2, none⟩ = some (.slice (some ⟨L.gs, 0, none⟩) j j)) (go_keep) (first | (go_at_call 75; refine (knew_ok c _ hc).mono ?_; rintro e w5 ⟨q1, q2, q3, rfl, hP5, hK5, hq1, hq2, hq3⟩; have hS5 := hS3.keep0 hK5; have hc5 := hS5.c2; rw [HN.out] at hc5; have hcs5 := hS5.cs HPL.out; rw [HKF.out] at hcs5; have hfs5 := hS5.fs p))
      have hlt5 := hP5.lt
      have hF := HS1.out.lt
      have hsz3 := hK4.size
      have hsz1 := hK.size
      have HG := (show Hid (SpAt (w5.setCell ⟨L.gs, p, none⟩ (.pointer (some ⟨q1, 0, none⟩))) sb (L.more p q1 q2 q3) (q1 :: q2 :: q3 :: F) ws (takenL (kd.set p (.small c (offs (roomOf c))))) (kd.set p (.small c (offs (roomOf c))))) from
        hS5.gain HPL.out HKF.out hP5 ⟨fun e => by have := hF _ e; omega, fun e => by have := hF _ e; omega, fun e => by have := hF _ e; omega⟩)
      have f := HS1.out.f
      have HK6 := (show Hid (Keep F w (w5.setCell ⟨L.gs, p, none⟩ (.pointer (some ⟨q1, 0, none⟩)))) from
        (((hK.mono (T := F) (by simp)).trans (hK4.mono (fun k e => by simp at e; subst e; exact f.2.2.2.2.2.1))).trans (hK5.mono (by simp))).trans (Keep.setCell _ _ f.2.2.2.2.2.2.1))
      have HGR := (show Hid (Grows w F (q1 :: q2 :: q3 :: F)) from fun k e => by
        simp only [List.mem_cons] at e
        rcases e with e | e | e | e
        · right; omega
        · right; omega
        · right; omega
        · exact .inl e)
      clear hS5 hP5 hK5 hS3 hK4 f hF
      go_wp2_with fail
      go_ret2
      exact ⟨_, _, rfl, HG.out, HK6.out, HGR.out⟩

end Go.Proofs.Ytdpaffnpedcmpab
