/-
  MarkKinds answers true, whatever it is given.
-/
import Derived.Test.YtgpidokklhjfdaaPart7
import Derived.Test.YtgpidokklhjfdaaKindsM
namespace Go.Proofs.Ytgpidokklhjfdaa.markKinds
open Go.RowKit

/-- The heads that are tried. -/
def hlB (x : Int) : Obj := .cells #[.int .i64 2, .int .i64 0, .int .i64 5, .bool false, .int .i64 1, .int .i64 1, .int .i64 3, .bool false, .int .i64 3, .int .i64 0, .int .i64 5, .bool false, .int .i64 4, .int .i64 x, .int .i64 5, .bool false] 32 (0, 0)
set_option maxRecDepth 100000 in
set_option maxHeartbeats 1600000 in
theorem kinds_refs (wh fd j s : Nat) (w : World) (_ : wh < 256) (_ : fd < 256) (hk : (wh : Int) % 4 = 0) (hj : (fd : Int) % 5 = (j : Int)) (hs : (fd : Int) % 3 = s) (_ : j < 5) (_ : s < 3) :
    Calls Try.prog 6 #[.int .u8 wh, .int .u8 fd] w fun e w' => e = .returned (.bool true) ∧ Keep [] w w' := by
  obtain ⟨W, K, A, hG⟩ := graph_ex (fun _ => 0) 0 0 (fun _ => by show 0 < 256; omega) (by omega)
  have hGR := graph_any none 0 0 0 (fun _ => 0) W K A w rfl hG ⟨fun h => absurd h (by omega), fun _ => by show 0 < 256; omega⟩ (by omega)
  rw [show gW (fun _ => 0) 0 0 W A 0 = zeros (64 * 60) from hG.ch.w0, hG.ch.k0] at hGR
  obtain ⟨W1, W2, W3, K1, K2, a, b, m, hM1, hM2, ha, hb, hP, hat, hOk, hR⟩ := kinds_ex 2 0 5 5 rfl (may_refs 5 (by omega) (by omega)) (.other (by omega)) (pages_few _ (by omega) (by omega)) j (by omega)
  rw [show ((j : Nat) : Int) = (j : Int) from rfl] at hP hR
  obtain ⟨ys, hT, hon, hto⟩ := hR (upL 5) (.refs _ _ _ _ _ hat)
  rw [show decide (((j : Int) : Int) ∈ ((upL 5) : List Int)) = true from (by rw [decide_eq_true_iff]; unfold upL; simp; exact ⟨j, by omega, rfl⟩)] at hto
  have HGR := hid hGR
  have HM1 := hid hM1
  have HM2 := hid hM2
  have HP := hid hP
  have HO := hid hOk
  have HT := hid hT
  have HON := hid hon
  have HTO := hid hto
  clear hG hGR hM1 hM2 hP hat hOk hR hT hon hto
  go_enter Try.func6, Try.ntmps6
  go_wp2_with fail
  refine HGR.out.mono ?_
  rintro e w1 ⟨hb', la, lc, rfl, hX⟩
  have HX := hid hX.fst
  clear hX HGR
  go_wp2_with fail
  refine (omake 3 0 1 a 0 false _ _ _ HX.out HM1.out).mono ?_
  rintro e w2 ⟨rfl, hX2⟩
  have HX2 := hid hX2
  clear hX2 HX
  go_wp2_with fail
  have HX3 := hid (HX2.out.newB (hlB (1 + (s : Int))))
  clear HX2
  refine (has_left HX3.out (fun F hF => omake 2 0 5 b 0 false _ _ _ hF HM2.out)).mono ?_
  rintro e w3 ⟨rfl, hX4⟩
  have hc4 : w3.cell? ⟨w2.heap.size, 0 * 4 + 2, none⟩ = some (.int .i64 5) := by
    have h := hX4.snd.fact (fun _ h => h.2)
    unfold hlB at h
    simp [World.cell?, h]
  have HX4 := hid hX4.fst
  clear hX4 HX3
  go_wp2_with fail
  refine (oput b (j : Int) a 0 _ _ HX4.out HP.out (by unfold inI; omega)).mono ?_
  rintro e w5 ⟨rfl, hX5⟩
  have HX5 := hid hX5
  clear hX5 HX4 hc4
  go_wp2_with fail
  refine (tnew_yes 2 _ HX5.out (by omega) (by omega)).mono ?_
  rintro e w6 ⟨tb, rfl, hX6⟩
  obtain ⟨_, _, ct, _⟩ := hX6.snd.trb
  have HX6 := hid (hX6.newB (.cells (ints [(b : Int)]).toArray 3 (0, 0)))
  clear hX6 HX5
  go_wp2_with (first | (go_at_call 9; refine (err_any _ _).mono ?_; rintro e w' ⟨rfl, rfl⟩))
  refine (tmark (some ⟨w6.heap.size, 0, none⟩) 1 1 [(b : Int)] _ HX6.out (fun zs w' h => ints_blkG (h.snd.fact (fun _ h => h.2)) (fun i => by rcases i with _ | i <;> simp <;> omega)) rfl (by omega) HO.out HT.out).mono ?_
  rintro e w7 ⟨rfl, hX7⟩
  have HX7 := hid hX7
  clear hX7 HX6 ct
  go_wp2_with fail
  refine (tmarked b _ HX7.out.fst.snd).mono ?_
  rw [HON.out]
  rintro e w8 ⟨rfl, hK8⟩
  have HX8 := hid (HX7.out.keep0 hK8)
  clear hK8 HX7
  go_wp2_with fail
  refine (tmarked a _ HX8.out.fst.snd).mono ?_
  rw [HTO.out]
  rintro e w9 ⟨rfl, hK9⟩
  have HX9 := hid (HX8.out.keep0 hK9)
  clear hK9 HX8
  go_wp2_with (first
    | (go_at_call 17; refine (awake17_any _).mono ?_; rintro e w10 ⟨rfl, hK10⟩))
  go_ret
  exact ⟨rfl, HX9.out.K.trans hK10⟩
set_option maxRecDepth 100000 in
set_option maxHeartbeats 1600000 in
theorem kinds_plain_0 (wh fd : Nat) (w : World) (_ : wh < 256) (_ : fd < 256) (hk : (wh : Int) % 4 = 1) (hj : (fd : Int) % 3 = 0) :
    Calls Try.prog 6 #[.int .u8 wh, .int .u8 fd] w fun e w' => e = .returned (.bool true) ∧ Keep [] w w' := by
  obtain ⟨W, K, A, hG⟩ := graph_ex (fun _ => 0) 0 0 (fun _ => by show 0 < 256; omega) (by omega)
  have hGR := graph_any none 0 0 0 (fun _ => 0) W K A w rfl hG ⟨fun h => absurd h (by omega), fun _ => by show 0 < 256; omega⟩ (by omega)
  rw [show gW (fun _ => 0) 0 0 W A 0 = zeros (64 * 60) from hG.ch.w0, hG.ch.k0] at hGR
  obtain ⟨W1, W2, W3, K1, K2, a, b, m, hM1, hM2, ha, hb, hP, hat, hOk, hR⟩ := kinds_ex 1 1 3 3 rfl (by decide) (.yes 0 [0, 2] rfl rfl rfl) (pages_few _ (by omega) (by omega)) 0 (by omega)
  rw [show ((0 : Nat) : Int) = 0 from rfl] at hP hR
  obtain ⟨ys, hT, hon, hto⟩ := hR [0, 2] (.plain _ _ 0 _ _ _ _ hat rfl rfl)
  rw [show decide ((0 : Int) ∈ ([0, 2] : List Int)) = true from (by decide)] at hto
  have HGR := hid hGR
  have HM1 := hid hM1
  have HM2 := hid hM2
  have HP := hid hP
  have HO := hid hOk
  have HT := hid hT
  have HON := hid hon
  have HTO := hid hto
  clear hG hGR hM1 hM2 hP hat hOk hR hT hon hto
  go_enter Try.func6, Try.ntmps6
  go_wp2_with fail
  refine HGR.out.mono ?_
  rintro e w1 ⟨hb', la, lc, rfl, hX⟩
  have HX := hid hX.fst
  clear hX HGR
  go_wp2_with fail
  refine (omake 3 0 1 a 0 false _ _ _ HX.out HM1.out).mono ?_
  rintro e w2 ⟨rfl, hX2⟩
  have HX2 := hid hX2
  clear hX2 HX
  go_wp2_with fail
  have HX3 := hid (HX2.out.newB (hlB 1))
  clear HX2
  refine (has_left HX3.out (fun F hF => omake 1 1 3 b 0 false _ _ _ hF HM2.out)).mono ?_
  rintro e w3 ⟨rfl, hX4⟩
  have hc4 : w3.cell? ⟨w2.heap.size, 1 * 4 + 2, none⟩ = some (.int .i64 3) := by
    have h := hX4.snd.fact (fun _ h => h.2)
    unfold hlB at h
    simp [World.cell?, h]
  have HX4 := hid hX4.fst
  clear hX4 HX3
  go_wp2_with fail
  refine (oput b 0 a 0 _ _ HX4.out HP.out (by unfold inI; omega)).mono ?_
  rintro e w5 ⟨rfl, hX5⟩
  have HX5 := hid hX5
  clear hX5 HX4 hc4
  go_wp2_with fail
  refine (tnew_yes 2 _ HX5.out (by omega) (by omega)).mono ?_
  rintro e w6 ⟨tb, rfl, hX6⟩
  obtain ⟨_, _, ct, _⟩ := hX6.snd.trb
  have HX6 := hid (hX6.newB (.cells (ints [(b : Int)]).toArray 3 (0, 0)))
  clear hX6 HX5
  go_wp2_with (first | (go_at_call 9; refine (err_any _ _).mono ?_; rintro e w' ⟨rfl, rfl⟩))
  refine (tmark (some ⟨w6.heap.size, 0, none⟩) 1 1 [(b : Int)] _ HX6.out (fun zs w' h => ints_blkG (h.snd.fact (fun _ h => h.2)) (fun i => by rcases i with _ | i <;> simp <;> omega)) rfl (by omega) HO.out HT.out).mono ?_
  rintro e w7 ⟨rfl, hX7⟩
  have HX7 := hid hX7
  clear hX7 HX6 ct
  go_wp2_with fail
  refine (tmarked b _ HX7.out.fst.snd).mono ?_
  rw [HON.out]
  rintro e w8 ⟨rfl, hK8⟩
  have HX8 := hid (HX7.out.keep0 hK8)
  clear hK8 HX7
  go_wp2_with fail
  refine (tmarked a _ HX8.out.fst.snd).mono ?_
  rw [HTO.out]
  rintro e w9 ⟨rfl, hK9⟩
  have HX9 := hid (HX8.out.keep0 hK9)
  clear hK9 HX8
  go_wp2_with (first
    | (go_at_call 17; refine (awake17_any _).mono ?_; rintro e w10 ⟨rfl, hK10⟩))
  go_ret
  exact ⟨rfl, HX9.out.K.trans hK10⟩
set_option maxRecDepth 100000 in
set_option maxHeartbeats 1600000 in
theorem kinds_plain_1 (wh fd : Nat) (w : World) (_ : wh < 256) (_ : fd < 256) (hk : (wh : Int) % 4 = 1) (hj : (fd : Int) % 3 = 1) :
    Calls Try.prog 6 #[.int .u8 wh, .int .u8 fd] w fun e w' => e = .returned (.bool true) ∧ Keep [] w w' := by
  obtain ⟨W, K, A, hG⟩ := graph_ex (fun _ => 0) 0 0 (fun _ => by show 0 < 256; omega) (by omega)
  have hGR := graph_any none 0 0 0 (fun _ => 0) W K A w rfl hG ⟨fun h => absurd h (by omega), fun _ => by show 0 < 256; omega⟩ (by omega)
  rw [show gW (fun _ => 0) 0 0 W A 0 = zeros (64 * 60) from hG.ch.w0, hG.ch.k0] at hGR
  obtain ⟨W1, W2, W3, K1, K2, a, b, m, hM1, hM2, ha, hb, hP, hat, hOk, hR⟩ := kinds_ex 1 1 3 3 rfl (by decide) (.yes 0 [0, 2] rfl rfl rfl) (pages_few _ (by omega) (by omega)) 1 (by omega)
  rw [show ((1 : Nat) : Int) = 1 from rfl] at hP hR
  obtain ⟨ys, hT, hon, hto⟩ := hR [0, 2] (.plain _ _ 0 _ _ _ _ hat rfl rfl)
  rw [show decide ((1 : Int) ∈ ([0, 2] : List Int)) = false from (by decide)] at hto
  have HGR := hid hGR
  have HM1 := hid hM1
  have HM2 := hid hM2
  have HP := hid hP
  have HO := hid hOk
  have HT := hid hT
  have HON := hid hon
  have HTO := hid hto
  clear hG hGR hM1 hM2 hP hat hOk hR hT hon hto
  go_enter Try.func6, Try.ntmps6
  go_wp2_with fail
  refine HGR.out.mono ?_
  rintro e w1 ⟨hb', la, lc, rfl, hX⟩
  have HX := hid hX.fst
  clear hX HGR
  go_wp2_with fail
  refine (omake 3 0 1 a 0 false _ _ _ HX.out HM1.out).mono ?_
  rintro e w2 ⟨rfl, hX2⟩
  have HX2 := hid hX2
  clear hX2 HX
  go_wp2_with fail
  have HX3 := hid (HX2.out.newB (hlB 2))
  clear HX2
  refine (has_left HX3.out (fun F hF => omake 1 1 3 b 0 false _ _ _ hF HM2.out)).mono ?_
  rintro e w3 ⟨rfl, hX4⟩
  have hc4 : w3.cell? ⟨w2.heap.size, 1 * 4 + 2, none⟩ = some (.int .i64 3) := by
    have h := hX4.snd.fact (fun _ h => h.2)
    unfold hlB at h
    simp [World.cell?, h]
  have HX4 := hid hX4.fst
  clear hX4 HX3
  go_wp2_with fail
  refine (oput b 1 a 0 _ _ HX4.out HP.out (by unfold inI; omega)).mono ?_
  rintro e w5 ⟨rfl, hX5⟩
  have HX5 := hid hX5
  clear hX5 HX4 hc4
  go_wp2_with fail
  refine (tnew_yes 2 _ HX5.out (by omega) (by omega)).mono ?_
  rintro e w6 ⟨tb, rfl, hX6⟩
  obtain ⟨_, _, ct, _⟩ := hX6.snd.trb
  have HX6 := hid (hX6.newB (.cells (ints [(b : Int)]).toArray 3 (0, 0)))
  clear hX6 HX5
  go_wp2_with (first | (go_at_call 9; refine (err_any _ _).mono ?_; rintro e w' ⟨rfl, rfl⟩))
  refine (tmark (some ⟨w6.heap.size, 0, none⟩) 1 1 [(b : Int)] _ HX6.out (fun zs w' h => ints_blkG (h.snd.fact (fun _ h => h.2)) (fun i => by rcases i with _ | i <;> simp <;> omega)) rfl (by omega) HO.out HT.out).mono ?_
  rintro e w7 ⟨rfl, hX7⟩
  have HX7 := hid hX7
  clear hX7 HX6 ct
  go_wp2_with fail
  refine (tmarked b _ HX7.out.fst.snd).mono ?_
  rw [HON.out]
  rintro e w8 ⟨rfl, hK8⟩
  have HX8 := hid (HX7.out.keep0 hK8)
  clear hK8 HX7
  go_wp2_with fail
  refine (tmarked a _ HX8.out.fst.snd).mono ?_
  rw [HTO.out]
  rintro e w9 ⟨rfl, hK9⟩
  have HX9 := hid (HX8.out.keep0 hK9)
  clear hK9 HX8
  go_wp2_with (first
    | (go_at_call 17; refine (awake17_any _).mono ?_; rintro e w10 ⟨rfl, hK10⟩))
  go_ret
  exact ⟨rfl, HX9.out.K.trans hK10⟩
set_option maxRecDepth 100000 in
set_option maxHeartbeats 1600000 in
theorem kinds_plain_2 (wh fd : Nat) (w : World) (_ : wh < 256) (_ : fd < 256) (hk : (wh : Int) % 4 = 1) (hj : (fd : Int) % 3 = 2) :
    Calls Try.prog 6 #[.int .u8 wh, .int .u8 fd] w fun e w' => e = .returned (.bool true) ∧ Keep [] w w' := by
  obtain ⟨W, K, A, hG⟩ := graph_ex (fun _ => 0) 0 0 (fun _ => by show 0 < 256; omega) (by omega)
  have hGR := graph_any none 0 0 0 (fun _ => 0) W K A w rfl hG ⟨fun h => absurd h (by omega), fun _ => by show 0 < 256; omega⟩ (by omega)
  rw [show gW (fun _ => 0) 0 0 W A 0 = zeros (64 * 60) from hG.ch.w0, hG.ch.k0] at hGR
  obtain ⟨W1, W2, W3, K1, K2, a, b, m, hM1, hM2, ha, hb, hP, hat, hOk, hR⟩ := kinds_ex 1 1 3 3 rfl (by decide) (.yes 0 [0, 2] rfl rfl rfl) (pages_few _ (by omega) (by omega)) 2 (by omega)
  rw [show ((2 : Nat) : Int) = 2 from rfl] at hP hR
  obtain ⟨ys, hT, hon, hto⟩ := hR [0, 2] (.plain _ _ 0 _ _ _ _ hat rfl rfl)
  rw [show decide ((2 : Int) ∈ ([0, 2] : List Int)) = true from (by decide)] at hto
  have HGR := hid hGR
  have HM1 := hid hM1
  have HM2 := hid hM2
  have HP := hid hP
  have HO := hid hOk
  have HT := hid hT
  have HON := hid hon
  have HTO := hid hto
  clear hG hGR hM1 hM2 hP hat hOk hR hT hon hto
  go_enter Try.func6, Try.ntmps6
  go_wp2_with fail
  refine HGR.out.mono ?_
  rintro e w1 ⟨hb', la, lc, rfl, hX⟩
  have HX := hid hX.fst
  clear hX HGR
  go_wp2_with fail
  refine (omake 3 0 1 a 0 false _ _ _ HX.out HM1.out).mono ?_
  rintro e w2 ⟨rfl, hX2⟩
  have HX2 := hid hX2
  clear hX2 HX
  go_wp2_with fail
  have HX3 := hid (HX2.out.newB (hlB 3))
  clear HX2
  refine (has_left HX3.out (fun F hF => omake 1 1 3 b 0 false _ _ _ hF HM2.out)).mono ?_
  rintro e w3 ⟨rfl, hX4⟩
  have hc4 : w3.cell? ⟨w2.heap.size, 1 * 4 + 2, none⟩ = some (.int .i64 3) := by
    have h := hX4.snd.fact (fun _ h => h.2)
    unfold hlB at h
    simp [World.cell?, h]
  have HX4 := hid hX4.fst
  clear hX4 HX3
  go_wp2_with fail
  refine (oput b 2 a 0 _ _ HX4.out HP.out (by unfold inI; omega)).mono ?_
  rintro e w5 ⟨rfl, hX5⟩
  have HX5 := hid hX5
  clear hX5 HX4 hc4
  go_wp2_with fail
  refine (tnew_yes 2 _ HX5.out (by omega) (by omega)).mono ?_
  rintro e w6 ⟨tb, rfl, hX6⟩
  obtain ⟨_, _, ct, _⟩ := hX6.snd.trb
  have HX6 := hid (hX6.newB (.cells (ints [(b : Int)]).toArray 3 (0, 0)))
  clear hX6 HX5
  go_wp2_with (first | (go_at_call 9; refine (err_any _ _).mono ?_; rintro e w' ⟨rfl, rfl⟩))
  refine (tmark (some ⟨w6.heap.size, 0, none⟩) 1 1 [(b : Int)] _ HX6.out (fun zs w' h => ints_blkG (h.snd.fact (fun _ h => h.2)) (fun i => by rcases i with _ | i <;> simp <;> omega)) rfl (by omega) HO.out HT.out).mono ?_
  rintro e w7 ⟨rfl, hX7⟩
  have HX7 := hid hX7
  clear hX7 HX6 ct
  go_wp2_with fail
  refine (tmarked b _ HX7.out.fst.snd).mono ?_
  rw [HON.out]
  rintro e w8 ⟨rfl, hK8⟩
  have HX8 := hid (HX7.out.keep0 hK8)
  clear hK8 HX7
  go_wp2_with fail
  refine (tmarked a _ HX8.out.fst.snd).mono ?_
  rw [HTO.out]
  rintro e w9 ⟨rfl, hK9⟩
  have HX9 := hid (HX8.out.keep0 hK9)
  clear hK9 HX8
  go_wp2_with (first
    | (go_at_call 17; refine (awake17_any _).mono ?_; rintro e w10 ⟨rfl, hK10⟩))
  go_ret
  exact ⟨rfl, HX9.out.K.trans hK10⟩
set_option maxRecDepth 100000 in
set_option maxHeartbeats 1600000 in
theorem kinds_data (wh fd j s : Nat) (w : World) (_ : wh < 256) (_ : fd < 256) (hk : (wh : Int) % 4 = 2) (hj : (fd : Int) % 5 = (j : Int)) (hs : (fd : Int) % 3 = s) (_ : j < 5) (_ : s < 3) :
    Calls Try.prog 6 #[.int .u8 wh, .int .u8 fd] w fun e w' => e = .returned (.bool true) ∧ Keep [] w w' := by
  obtain ⟨W, K, A, hG⟩ := graph_ex (fun _ => 0) 0 0 (fun _ => by show 0 < 256; omega) (by omega)
  have hGR := graph_any none 0 0 0 (fun _ => 0) W K A w rfl hG ⟨fun h => absurd h (by omega), fun _ => by show 0 < 256; omega⟩ (by omega)
  rw [show gW (fun _ => 0) 0 0 W A 0 = zeros (64 * 60) from hG.ch.w0, hG.ch.k0] at hGR
  obtain ⟨W1, W2, W3, K1, K2, a, b, m, hM1, hM2, ha, hb, hP, hat, hOk, hR⟩ := kinds_ex 3 0 5 5 rfl (may_data 5 (by omega) (by omega)) (.other (by omega)) (pages_few _ (by omega) (by omega)) j (by omega)
  rw [show ((j : Nat) : Int) = (j : Int) from rfl] at hP hR
  obtain ⟨ys, hT, hon, hto⟩ := hR [] (.data _ _ _ _ _ hat)
  rw [show decide (((j : Int) : Int) ∈ ([] : List Int)) = false from (by simp)] at hto
  have HGR := hid hGR
  have HM1 := hid hM1
  have HM2 := hid hM2
  have HP := hid hP
  have HO := hid hOk
  have HT := hid hT
  have HON := hid hon
  have HTO := hid hto
  clear hG hGR hM1 hM2 hP hat hOk hR hT hon hto
  go_enter Try.func6, Try.ntmps6
  go_wp2_with fail
  refine HGR.out.mono ?_
  rintro e w1 ⟨hb', la, lc, rfl, hX⟩
  have HX := hid hX.fst
  clear hX HGR
  go_wp2_with fail
  refine (omake 3 0 1 a 0 false _ _ _ HX.out HM1.out).mono ?_
  rintro e w2 ⟨rfl, hX2⟩
  have HX2 := hid hX2
  clear hX2 HX
  go_wp2_with fail
  have HX3 := hid (HX2.out.newB (hlB (1 + (s : Int))))
  clear HX2
  refine (has_left HX3.out (fun F hF => omake 3 0 5 b 0 false _ _ _ hF HM2.out)).mono ?_
  rintro e w3 ⟨rfl, hX4⟩
  have hc4 : w3.cell? ⟨w2.heap.size, 2 * 4 + 2, none⟩ = some (.int .i64 5) := by
    have h := hX4.snd.fact (fun _ h => h.2)
    unfold hlB at h
    simp [World.cell?, h]
  have HX4 := hid hX4.fst
  clear hX4 HX3
  go_wp2_with fail
  refine (oput b (j : Int) a 0 _ _ HX4.out HP.out (by unfold inI; omega)).mono ?_
  rintro e w5 ⟨rfl, hX5⟩
  have HX5 := hid hX5
  clear hX5 HX4 hc4
  go_wp2_with fail
  refine (tnew_yes 2 _ HX5.out (by omega) (by omega)).mono ?_
  rintro e w6 ⟨tb, rfl, hX6⟩
  obtain ⟨_, _, ct, _⟩ := hX6.snd.trb
  have HX6 := hid (hX6.newB (.cells (ints [(b : Int)]).toArray 3 (0, 0)))
  clear hX6 HX5
  go_wp2_with (first | (go_at_call 9; refine (err_any _ _).mono ?_; rintro e w' ⟨rfl, rfl⟩))
  refine (tmark (some ⟨w6.heap.size, 0, none⟩) 1 1 [(b : Int)] _ HX6.out (fun zs w' h => ints_blkG (h.snd.fact (fun _ h => h.2)) (fun i => by rcases i with _ | i <;> simp <;> omega)) rfl (by omega) HO.out HT.out).mono ?_
  rintro e w7 ⟨rfl, hX7⟩
  have HX7 := hid hX7
  clear hX7 HX6 ct
  go_wp2_with fail
  refine (tmarked b _ HX7.out.fst.snd).mono ?_
  rw [HON.out]
  rintro e w8 ⟨rfl, hK8⟩
  have HX8 := hid (HX7.out.keep0 hK8)
  clear hK8 HX7
  go_wp2_with fail
  refine (tmarked a _ HX8.out.fst.snd).mono ?_
  rw [HTO.out]
  rintro e w9 ⟨rfl, hK9⟩
  have HX9 := hid (HX8.out.keep0 hK9)
  clear hK9 HX8
  go_wp2_with (first
    | (go_at_call 17; refine (awake17_any _).mono ?_; rintro e w10 ⟨rfl, hK10⟩))
  go_ret
  exact ⟨rfl, HX9.out.K.trans hK10⟩
set_option maxRecDepth 100000 in
set_option maxHeartbeats 1600000 in
theorem kinds_ref_yes (wh fd s : Nat) (w : World) (_ : wh < 256) (_ : fd < 256) (hk : (wh : Int) % 4 = 3) (hj : (fd : Int) % 5 = 2) (hs : (fd : Int) % 3 = s) (_ : s < 3) :
    Calls Try.prog 6 #[.int .u8 wh, .int .u8 fd] w fun e w' => e = .returned (.bool true) ∧ Keep [] w w' := by
  obtain ⟨W, K, A, hG⟩ := graph_ex (fun _ => 0) 0 0 (fun _ => by show 0 < 256; omega) (by omega)
  have hGR := graph_any none 0 0 0 (fun _ => 0) W K A w rfl hG ⟨fun h => absurd h (by omega), fun _ => by show 0 < 256; omega⟩ (by omega)
  rw [show gW (fun _ => 0) 0 0 W A 0 = zeros (64 * 60) from hG.ch.w0, hG.ch.k0] at hGR
  obtain ⟨W1, W2, W3, K1, K2, a, b, m, hM1, hM2, ha, hb, hP, hat, hOk, hR⟩ := kinds_ex 4 (1 + (s : Int)) 5 5 rfl (mayH_ref (by omega) (by omega)) (.other (by omega)) (pages_few _ (by omega) (by omega)) 2 (by omega)
  rw [show ((2 : Nat) : Int) = 2 from rfl] at hP hR
  obtain ⟨ys, hT, hon, hto⟩ := hR [2] (.ref _ _ _ _ _ hat)
  rw [show decide ((2 : Int) ∈ ([2] : List Int)) = true from (by decide)] at hto
  have HGR := hid hGR
  have HM1 := hid hM1
  have HM2 := hid hM2
  have HP := hid hP
  have HO := hid hOk
  have HT := hid hT
  have HON := hid hon
  have HTO := hid hto
  clear hG hGR hM1 hM2 hP hat hOk hR hT hon hto
  go_enter Try.func6, Try.ntmps6
  go_wp2_with fail
  refine HGR.out.mono ?_
  rintro e w1 ⟨hb', la, lc, rfl, hX⟩
  have HX := hid hX.fst
  clear hX HGR
  go_wp2_with fail
  refine (omake 3 0 1 a 0 false _ _ _ HX.out HM1.out).mono ?_
  rintro e w2 ⟨rfl, hX2⟩
  have HX2 := hid hX2
  clear hX2 HX
  go_wp2_with fail
  have HX3 := hid (HX2.out.newB (hlB (1 + (s : Int))))
  clear HX2
  refine (has_left HX3.out (fun F hF => omake 4 (1 + (s : Int)) 5 b 0 false _ _ _ hF HM2.out)).mono ?_
  rintro e w3 ⟨rfl, hX4⟩
  have hc4 : w3.cell? ⟨w2.heap.size, 3 * 4 + 2, none⟩ = some (.int .i64 5) := by
    have h := hX4.snd.fact (fun _ h => h.2)
    unfold hlB at h
    simp [World.cell?, h]
  have HX4 := hid hX4.fst
  clear hX4 HX3
  go_wp2_with fail
  refine (oput b 2 a 0 _ _ HX4.out HP.out (by unfold inI; omega)).mono ?_
  rintro e w5 ⟨rfl, hX5⟩
  have HX5 := hid hX5
  clear hX5 HX4 hc4
  go_wp2_with fail
  refine (tnew_yes 2 _ HX5.out (by omega) (by omega)).mono ?_
  rintro e w6 ⟨tb, rfl, hX6⟩
  obtain ⟨_, _, ct, _⟩ := hX6.snd.trb
  have HX6 := hid (hX6.newB (.cells (ints [(b : Int)]).toArray 3 (0, 0)))
  clear hX6 HX5
  go_wp2_with (first | (go_at_call 9; refine (err_any _ _).mono ?_; rintro e w' ⟨rfl, rfl⟩))
  refine (tmark (some ⟨w6.heap.size, 0, none⟩) 1 1 [(b : Int)] _ HX6.out (fun zs w' h => ints_blkG (h.snd.fact (fun _ h => h.2)) (fun i => by rcases i with _ | i <;> simp <;> omega)) rfl (by omega) HO.out HT.out).mono ?_
  rintro e w7 ⟨rfl, hX7⟩
  have HX7 := hid hX7
  clear hX7 HX6 ct
  go_wp2_with fail
  refine (tmarked b _ HX7.out.fst.snd).mono ?_
  rw [HON.out]
  rintro e w8 ⟨rfl, hK8⟩
  have HX8 := hid (HX7.out.keep0 hK8)
  clear hK8 HX7
  go_wp2_with fail
  refine (tmarked a _ HX8.out.fst.snd).mono ?_
  rw [HTO.out]
  rintro e w9 ⟨rfl, hK9⟩
  have HX9 := hid (HX8.out.keep0 hK9)
  clear hK9 HX8
  go_wp2_with (first
    | (go_at_call 17; refine (awake17_any _).mono ?_; rintro e w10 ⟨rfl, hK10⟩))
  go_ret
  exact ⟨rfl, HX9.out.K.trans hK10⟩
set_option maxRecDepth 100000 in
set_option maxHeartbeats 1600000 in
theorem kinds_ref_no (wh fd j s : Nat) (w : World) (_ : wh < 256) (_ : fd < 256) (hk : (wh : Int) % 4 = 3) (hj : (fd : Int) % 5 = (j : Int)) (hs : (fd : Int) % 3 = s) (_ : j < 5) (_ : s < 3) (hne : j ≠ 2) :
    Calls Try.prog 6 #[.int .u8 wh, .int .u8 fd] w fun e w' => e = .returned (.bool true) ∧ Keep [] w w' := by
  obtain ⟨W, K, A, hG⟩ := graph_ex (fun _ => 0) 0 0 (fun _ => by show 0 < 256; omega) (by omega)
  have hGR := graph_any none 0 0 0 (fun _ => 0) W K A w rfl hG ⟨fun h => absurd h (by omega), fun _ => by show 0 < 256; omega⟩ (by omega)
  rw [show gW (fun _ => 0) 0 0 W A 0 = zeros (64 * 60) from hG.ch.w0, hG.ch.k0] at hGR
  obtain ⟨W1, W2, W3, K1, K2, a, b, m, hM1, hM2, ha, hb, hP, hat, hOk, hR⟩ := kinds_ex 4 (1 + (s : Int)) 5 5 rfl (mayH_ref (by omega) (by omega)) (.other (by omega)) (pages_few _ (by omega) (by omega)) j (by omega)
  rw [show ((j : Nat) : Int) = (j : Int) from rfl] at hP hR
  obtain ⟨ys, hT, hon, hto⟩ := hR [2] (.ref _ _ _ _ _ hat)
  rw [show decide (((j : Int) : Int) ∈ ([2] : List Int)) = false from (by rw [decide_eq_false_iff_not]; simp; omega)] at hto
  have HGR := hid hGR
  have HM1 := hid hM1
  have HM2 := hid hM2
  have HP := hid hP
  have HO := hid hOk
  have HT := hid hT
  have HON := hid hon
  have HTO := hid hto
  clear hG hGR hM1 hM2 hP hat hOk hR hT hon hto
  have d2 : ((j : Int) == 2) = false := by rw [beq_eq_false_iff_ne]; omega
  go_enter Try.func6, Try.ntmps6
  go_wp2_with fail
  refine HGR.out.mono ?_
  rintro e w1 ⟨hb', la, lc, rfl, hX⟩
  have HX := hid hX.fst
  clear hX HGR
  go_wp2_with fail
  refine (omake 3 0 1 a 0 false _ _ _ HX.out HM1.out).mono ?_
  rintro e w2 ⟨rfl, hX2⟩
  have HX2 := hid hX2
  clear hX2 HX
  go_wp2_with fail
  have HX3 := hid (HX2.out.newB (hlB (1 + (s : Int))))
  clear HX2
  refine (has_left HX3.out (fun F hF => omake 4 (1 + (s : Int)) 5 b 0 false _ _ _ hF HM2.out)).mono ?_
  rintro e w3 ⟨rfl, hX4⟩
  have hc4 : w3.cell? ⟨w2.heap.size, 3 * 4 + 2, none⟩ = some (.int .i64 5) := by
    have h := hX4.snd.fact (fun _ h => h.2)
    unfold hlB at h
    simp [World.cell?, h]
  have HX4 := hid hX4.fst
  clear hX4 HX3
  go_wp2_with fail
  refine (oput b (j : Int) a 0 _ _ HX4.out HP.out (by unfold inI; omega)).mono ?_
  rintro e w5 ⟨rfl, hX5⟩
  have HX5 := hid hX5
  clear hX5 HX4 hc4
  go_wp2_with fail
  refine (tnew_yes 2 _ HX5.out (by omega) (by omega)).mono ?_
  rintro e w6 ⟨tb, rfl, hX6⟩
  obtain ⟨_, _, ct, _⟩ := hX6.snd.trb
  have HX6 := hid (hX6.newB (.cells (ints [(b : Int)]).toArray 3 (0, 0)))
  clear hX6 HX5
  go_wp2_with (first | (go_at_call 9; refine (err_any _ _).mono ?_; rintro e w' ⟨rfl, rfl⟩))
  refine (tmark (some ⟨w6.heap.size, 0, none⟩) 1 1 [(b : Int)] _ HX6.out (fun zs w' h => ints_blkG (h.snd.fact (fun _ h => h.2)) (fun i => by rcases i with _ | i <;> simp <;> omega)) rfl (by omega) HO.out HT.out).mono ?_
  rintro e w7 ⟨rfl, hX7⟩
  have HX7 := hid hX7
  clear hX7 HX6 ct
  go_wp2_with fail
  refine (tmarked b _ HX7.out.fst.snd).mono ?_
  rw [HON.out]
  rintro e w8 ⟨rfl, hK8⟩
  have HX8 := hid (HX7.out.keep0 hK8)
  clear hK8 HX7
  go_wp2_with fail
  refine (tmarked a _ HX8.out.fst.snd).mono ?_
  rw [HTO.out]
  rintro e w9 ⟨rfl, hK9⟩
  have HX9 := hid (HX8.out.keep0 hK9)
  clear hK9 HX8
  go_wp2_with (first
    | (go_at_call 17; refine (awake17_any _).mono ?_; rintro e w10 ⟨rfl, hK10⟩))
  go_ret
  exact ⟨rfl, HX9.out.K.trans hK10⟩
theorem walk (a0 a1 : Int) (w0 : (Lit.int .u8 a0).wf = true) (w1 : (Lit.int .u8 a1).wf = true) (w : World) :
    Calls Try.prog 6 #[.int .u8 a0, .int .u8 a1] w fun e w' => e = .returned (.bool true) ∧ Keep [] w w' := by
  have h0 := bounds_u8 w0
  have h1 := bounds_u8 w1
  obtain ⟨wh, rfl⟩ : ∃ n : Nat, a0 = n := ⟨a0.toNat, by omega⟩
  obtain ⟨fd, rfl⟩ : ∃ n : Nat, a1 = n := ⟨a1.toNat, by omega⟩
  obtain ⟨s, hs⟩ : ∃ r : Nat, (fd : Int) % 3 = r := ⟨((fd : Int) % 3).toNat, by omega⟩
  obtain ⟨j, hj⟩ : ∃ r : Nat, (fd : Int) % 5 = r := ⟨((fd : Int) % 5).toNat, by omega⟩
  rcases (show (wh : Int) % 4 = 0 ∨ (wh : Int) % 4 = 1 ∨ (wh : Int) % 4 = 2 ∨ (wh : Int) % 4 = 3 by omega) with hk | hk | hk | hk
  · exact kinds_refs wh fd j s w (by omega) (by omega) hk hj hs (by omega) (by omega)
  · rcases (show (fd : Int) % 3 = 0 ∨ (fd : Int) % 3 = 1 ∨ (fd : Int) % 3 = 2 by omega) with h | h | h
    · exact kinds_plain_0 wh fd w (by omega) (by omega) hk h
    · exact kinds_plain_1 wh fd w (by omega) (by omega) hk h
    · exact kinds_plain_2 wh fd w (by omega) (by omega) hk h
  · exact kinds_data wh fd j s w (by omega) (by omega) hk hj hs (by omega) (by omega)
  · by_cases e : j = 2
    · exact kinds_ref_yes wh fd s w (by omega) (by omega) hk (by omega) hs (by omega)
    · exact kinds_ref_no wh fd j s w (by omega) (by omega) hk hj hs (by omega) (by omega) e

end Go.Proofs.Ytgpidokklhjfdaa.markKinds
