/-
  The words of gloaminglaw17, by numbers: what an object's fields are put to.
-/
import Derived.Test.YtgpidokklhjfdaaGreatHeads17
import Derived.Test.YtgpidokklhjfdaaGreatPart2
import Derived.Test.YtgpidokklhjfdaaGreatPart6
namespace Go.Proofs.YtgpidokklhjfdaaGreat
open Go.RowKit

set_option maxRecDepth 100000 in
set_option maxHeartbeats 1600000 in
theorem n3_17 (no : Option Addr) (m nc i : Nat) (B : Nat → Nat) (w : World) (hU : U8At w no m B) (hm : 1 ≤ m) (hi : i ≤ 1000) (hm63 : m ≤ 9223372036854775807) :
    Calls Tryz.prog 56 #[.slice no m nc, .int .i64 i] w fun e w' => e = .returned (.int .i64 (((B ((i * 5 + 2) % m) % 4 : Nat) : Int) - 1)) ∧ w = w' := by
  obtain ⟨p, hp⟩ : ∃ p, (i * 5 + 2) % m = p := ⟨_, rfl⟩
  have hpm : p < m := by rw [← hp]; exact Nat.mod_lt _ (by omega)
  have hpi : ((i : Int) * 5 + 2) % (m : Int) = p := by rw [← hp]; rfl
  have hpt : ((i : Int) * 5 + 2).tmod (m : Int) = p := by rw [Int.tmod_eq_emod_of_nonneg (by omega)]; exact hpi
  obtain ⟨nb, no', rfl, hnb, hcn⟩ := hU.cells (by omega)
  have hc := hcn p hpm
  have hB := hU.lt p
  rw [hp]
  obtain ⟨b0, hb0⟩ : ∃ b0, B p = b0 := ⟨_, rfl⟩
  rw [hb0] at hc hB ⊢
  obtain ⟨t, ht⟩ : ∃ t, b0 % 4 = t := ⟨_, rfl⟩
  have ht1 : (b0 : Int) % 4 = t := by omega
  have ht2 : (b0 : Int).tmod 4 = t := by rw [Int.tmod_eq_emod_of_nonneg (by omega)]; exact ht1
  have ht4 : t < 4 := by omega
  rw [ht]
  clear hU hcn hp hb0 ht
  go_enter Tryz.func56, Tryz.ntmps56
  go_wp2_with fail
  go_ret
  exact ⟨rfl, rfl⟩

/-- How far the words have come. -/
structure WAt (B : Nat → Nat) (m : Nat) (L : List Int) (kk : Int) (i q k : Nat) (X : List Int) : Prop where
  len : X.length = q
  done : ∀ t, t < k → X[t]?.getD 0 = wG1 B m L kk i t
  rest : ∀ t, k ≤ t → X[t]?.getD 0 = 0
theorem WAt.start (B : Nat → Nat) (m : Nat) (L : List Int) (kk : Int) (i q : Nat) : WAt B m L kk i q 0 (zeros q) := ⟨zeros_length q, fun t h => by omega, fun t _ => zeros_get q t⟩
theorem WAt.put {B : Nat → Nat} {m : Nat} {L : List Int} {kk : Int} {i q k : Nat} {X : List Int} (h : WAt B m L kk i q k X) (hk : k < q) (x : Int) (hx : wG1 B m L kk i k = x) : WAt B m L kk i q (k + 1) (X.set k x) := by
  refine ⟨by rw [List.length_set]; exact h.len, fun t ht => ?_, fun t ht => ?_⟩
  · by_cases e : t = k
    · subst e; rw [set_get_same _ _ _ (by rw [h.len]; exact hk), hx]
    · rw [set_get_other _ _ _ _ (fun e' => e e'.symm)]; exact h.done t (by omega)
  · rw [set_get_other _ _ _ _ (by omega)]; exact h.rest t (by omega)
theorem WAt.leave {B : Nat → Nat} {m : Nat} {L : List Int} {kk : Int} {i q k : Nat} {X : List Int} (h : WAt B m L kk i q k X) (hx : wG1 B m L kk i k = 0) : WAt B m L kk i q (k + 1) X := by
  refine ⟨h.len, fun t ht => ?_, fun t ht => h.rest t (by omega)⟩
  by_cases e : t = k
  · subst e; rw [hx]; exact h.rest t (Nat.le_refl _)
  · exact h.done t (by omega)
theorem list_ext {X Y : List Int} (hl : X.length = Y.length) (h : ∀ t, t < Y.length → X[t]?.getD 0 = Y[t]?.getD 0) : X = Y := by
  refine List.ext_getElem hl (fun t h1 h2 => ?_)
  have := h t h2
  rw [List.getElem?_eq_getElem h1, List.getElem?_eq_getElem h2] at this
  exact this
theorem WAt.plain {B : Nat → Nat} {m : Nat} {L : List Int} {kk : Int} {i q : Nat} {X : List Int} (h : WAt B m L kk i q q X) (hk : kk ≠ 4) : X = wordsG B m L kk q i := by
  refine list_ext (by rw [h.len, wordsG_length]; omega) (fun t ht => ?_)
  rw [wordsG_length] at ht
  rw [h.done t (by omega), wordsG_get _ _ _ _ _ _ _ ht]
  unfold wG; rw [if_neg hk]
theorem WAt.ref {B : Nat → Nat} {m : Nat} {L : List Int} {i : Nat} {X : List Int} (h : WAt B m L 4 i 5 5 X) : (((X.set 2 0).set 1 (((B ((i * 5 + 2) % m) % 4 : Nat) : Int) - 1)).set 3 (B (i % m) : Int)).set 4 ((i : Int) + 1) = wordsG B m L 4 5 i := by
  refine list_ext (by simp [h.len, wordsG_length]) (fun t ht => ?_)
  rw [wordsG_length] at ht
  rw [wordsG_get _ _ _ _ _ _ _ ht]
  have hl := h.len
  have ht5 : t < 5 := by simpa using ht
  unfold wG
  rw [if_pos rfl]
  rcases (show t = 0 ∨ t = 1 ∨ t = 2 ∨ t = 3 ∨ t = 4 by omega) with rfl | rfl | rfl | rfl | rfl
  · rw [set_get_other _ _ _ _ (by omega), set_get_other _ _ _ _ (by omega), set_get_other _ _ _ _ (by omega), set_get_other _ _ _ _ (by omega), h.done 0 (by omega)]
    simp
  · rw [set_get_other _ _ _ _ (by omega), set_get_other _ _ _ _ (by omega), set_get_same _ _ _ (by simp [hl])]
    simp
  · rw [set_get_other _ _ _ _ (by omega), set_get_other _ _ _ _ (by omega), set_get_other _ _ _ _ (by omega), set_get_same _ _ _ (by simp [hl])]
    simp
  · rw [set_get_other _ _ _ _ (by omega), set_get_same _ _ _ (by simp [hl])]
    simp
  · rw [set_get_same _ _ _ (by simp [hl])]
    simp

set_option maxRecDepth 100000 in
set_option maxHeartbeats 12800000 in
theorem words17 (kk cc : Int) (q : Nat) (la : Option Addr) (n lc : Nat) (L : List Int) (no : Option Addr) (m nc i : Nat) (B : Nat → Nat) (w : World) (hk : 1 ≤ kk ∧ kk ≤ 4) (hq : 1 ≤ q ∧ q ≤ 5) (h4 : kk = 4 → q = 5) (hA : IntsAt w la L) (hn : L.length = n) (hn1 : 1 ≤ n) (hn2 : n ≤ 1000) (hU : U8At w no m B) (hm : 1 ≤ m) (hi : i ≤ 1000) (hm63 : m ≤ 9223372036854775807) :
    Calls Tryz.prog 26 #[.agg #[.int .i64 kk, .int .i64 cc, .int .i64 q, .bool false], .slice la n lc, .slice no m nc, .int .i64 i] w fun e w' => ∃ g, e = .returned (.slice (some ⟨g, 0, none⟩) q q) ∧ w.heap.size ≤ g ∧ Row w' 3 g (wordsG B m L kk q i) ∧ Keep [] w w' := by
  have hmk : ∀ w, (Instr.makeSlice 25 (.int .i64 (q : Int)) (.int .i64 (q : Int))).run Tryz.prog w = .ok (.slice (some ⟨w.heap.size, 0, none⟩) q q) (w.alloc (.cells (madeCells #[.int .i64 0] q) 3)) :=
    fun w => run_make_row' (P := Tryz.prog) 25 3 (.int .i64 0) 8 Tryz.underlying25 Tryz.infoIntC rfl .i64 .i64 q (by omega) (by omega) w
  have HA := hid hA
  have HN := hid hn
  have HU := hid hU
  have H4 := hid h4
  clear hA hn hU h4
  go_enter Tryz.func26, Tryz.ntmps26
  go_wp2_with fail
  have hb1 := heap_alloc_new w (hdB kk cc q)
  have hb2 := (Keep.alloc [] (w.alloc (hdB kk cc q)) (.cells (madeCells #[.int .i64 0] q) 3)).blk hb1 (by simp)
  have hR2 := Row.made (w.alloc (hdB kk cc q)) 3 q
  have hK2 : Keep [] w ((w.alloc (hdB kk cc q)).alloc (.cells (madeCells #[.int .i64 0] q) 3)) := (Keep.alloc [] w _).trans (Keep.alloc [] _ _)
  have hz : (w.alloc (hdB kk cc q)).heap.size = w.heap.size + 1 := by simp
  rw [hz] at hR2
  unfold hdB at hb2 hR2 hK2
  clear hb1 hz hmk
  generalize ((w.alloc (.cells #[.int .i64 kk, .int .i64 cc, .int .i64 q, .bool false] 68)).alloc (.cells (madeCells #[.int .i64 0] q) 3)) = w2 at *
  have HS := (show Hid (w.heap.size < w.heap.size + 1) from Nat.lt_succ_self _)
  have hszlt : w.heap.size ≤ w.heap.size := Nat.le_refl _
  obtain ⟨hx, hhx⟩ : ∃ hx, w.heap.size = hx := ⟨_, rfl⟩
  obtain ⟨g, hg⟩ : ∃ g, hx + 1 = g := ⟨_, rfl⟩
  simp only [hhx, hg] at hb2 hR2 ⊢
  have HX := (show Hid (∀ wr, Keep [g] w2 wr → wr.cell? ⟨hx, 0, none⟩ = some (.int .i64 kk) ∧ wr.cell? ⟨hx, 2, none⟩ = some (.int .i64 (q : Int))) from fun wr K => by
    have h := hdB_cells (c := cc) (show wr.heap[hx]? = some (hdB kk cc q) from K.blk hb2 (by simp; omega))
    exact ⟨h.1.1, h.2.2.1.1⟩)
  have HK2 := hid hK2
  have HGW := (show Hid (w.heap.size ≤ g) from by show _ ≤ _; omega)
  clear hb2 hK2 hszlt HS
  go_loopw [10] (fun v wr => ∃ (k : Nat) (X : List Int), v = .int .i64 k ∧ k ≤ q ∧ Hid (WAt B m L kk i q k X) ∧ Hid (Row wr 3 g X) ∧ Hid (Keep [g] w2 wr)) (fun v _ => q - (intOf v).toNat)
  case atStart => exact ⟨0, _, rfl, by omega, WAt.start B m L kk i q, hR2, Keep.refl _ _⟩
  case round =>
    obtain ⟨k, X, rfl, hkq, HW, HR, HK⟩ := hrel
    clear hR2
    obtain ⟨x0, x2⟩ := HX.out wr HK.out
    by_cases hlt : k < q
    · have d1 : decide ((k : Int) < (q : Int)) = true := decide_eq_true (by omega)
      obtain ⟨p, hp⟩ : ∃ p, (i * 7 + k * 3 + 1) % m = p := ⟨_, rfl⟩
      have hpm : p < m := by rw [← hp]; exact Nat.mod_lt _ (by omega)
      have hpi : ((i : Int) * 7 + (k : Int) * 3 + 1) % (m : Int) = p := by rw [← hp]; rfl
      have hpt : ((i : Int) * 7 + (k : Int) * 3 + 1).tmod (m : Int) = p := by rw [Int.tmod_eq_emod_of_nonneg (by omega)]; exact hpi
      obtain ⟨nb, no', rfl, hnb, hcn⟩ := HU.out.cells (by omega)
      have hKw : Keep [] w wr := (HK2.out.mono (T := [g]) (by simp)).trans HK.out |>.drop (by intro x hx' hxw; simp at hx'; omega)
      have HKW := hid hKw
      have hc := (hKw.cell hnb (by simp) (no' + p)).trans (hcn p hpm)
      have hB := HU.out.lt p
      have HNUM := (show Hid (numG B m i k = B p + 13 * i + 5 * k) from by show _ = _; unfold numG; rw [hp])
      obtain ⟨b0, hb0⟩ : ∃ b0, B p = b0 := ⟨_, rfl⟩
      rw [hb0] at hc hB HNUM
      clear hcn hp hb0 hKw
      go_upto_region 6 with fail
      go_cut [12] from 52 to 52 (fun v wz => v = .bool (isG kk k) ∧ wz = wr)
      case first =>
        rcases (show kk = 1 ∨ kk = 2 ∨ kk = 3 ∨ kk = 4 by omega) with rfl | rfl | rfl | rfl
        · by_cases hk1 : k = 1
          · subst hk1
            go_wp2_with fail
            go_meet
            exact ⟨rfl, rfl⟩
          · have e1 : ((k : Int) != 1) = true := by simp; omega
            have e2 : (k != 1) = true := by simp [hk1]
            go_wp2_with fail
            go_meet
            exact ⟨by simp [isG, hk1], rfl⟩
        · go_wp2_with fail
          go_meet
          exact ⟨by simp [isG], rfl⟩
        · go_wp2_with fail
          go_meet
          exact ⟨by simp [isG], rfl⟩
        · rcases (show k = 0 ∨ k = 2 ∨ (k ≠ 0 ∧ k ≠ 2) by omega) with rfl | rfl | ⟨k0, k2⟩
          · go_wp2_with fail
            go_meet
            exact ⟨rfl, rfl⟩
          · go_wp2_with fail
            go_meet
            exact ⟨rfl, rfl⟩
          · have e1 : ((k : Int) == 0) = false := by rw [beq_eq_false_iff_ne]; omega
            have e2 : ((k : Int) == 2) = false := by rw [beq_eq_false_iff_ne]; omega
            go_wp2_with fail
            go_meet
            exact ⟨by simp [isG, k0, k2], rfl⟩
      case rest =>
        obtain ⟨rfl, rfl⟩ := hcut
        obtain ⟨nn, hnn⟩ : ∃ nn : Nat, (b0 : Int) + 13 * (i : Int) + 5 * (k : Int) = nn := ⟨b0 + 13 * i + 5 * k, by omega⟩
        have HNN := (show Hid (numG B m i k = nn) from by show _ = _; rw [HNUM.out]; omega)
        obtain ⟨r3, hr3⟩ : ∃ r3, nn % 3 = r3 := ⟨_, rfl⟩
        have h3a : (nn : Int) % 3 = r3 := by omega
        have h3b : (nn : Int).tmod 3 = r3 := by rw [Int.tmod_eq_emod_of_nonneg (by omega)]; exact h3a
        have hnb' : nn ≤ 20000 := by omega
        have hRk := HR.out.cell (i := k) (by rw [HW.out.len]; exact hlt)
        have hFk := HR.out.free k
        generalize X[k]?.getD 0 = old at hRk
        clear hpm hpi hpt hc hB HNUM
        have HW1 := (show Hid (wG1 B m L kk i k = if isG kk k = true then (if 0 < nn % 3 then L[nn % L.length]?.getD 0 else 0) else (nn : Int)) from by show _ = _; unfold wG1; rw [HNN.out])
        cases hG : isG kk k with
        | false =>
          have hv : wG1 B m L kk i k = (nn : Int) := by rw [HW1.out, hG]; rfl
          have HP := (show Hid (WAt B m L kk i q (k + 1) (X.set k (nn : Int)) ∧ Row (wc.setCell ⟨g, k, none⟩ (.int .i64 (nn : Int))) 3 g (X.set k (nn : Int)) ∧ Keep [g] w2 (wc.setCell ⟨g, k, none⟩ (.int .i64 (nn : Int)))) from ⟨HW.out.put hlt _ hv, HR.out.put k _, HK.out.trans (Keep.setCell _ _ (by simp))⟩)
          clear hv hr3 h3a h3b
          go_wp2_with fail
          go_roundw
          case rel => exact ⟨k + 1, _, by go_num, by omega, HP.out.1, HP.out.2.1, HP.out.2.2⟩
          case measure => simp [intOf]; omega
        | true =>
          by_cases h0 : 0 < r3
          · have d3 : decide (0 < (r3 : Int)) = true := decide_eq_true (by omega)
            obtain ⟨r, hr⟩ : ∃ r, nn % n = r := ⟨_, rfl⟩
            have hri : (nn : Int) % (n : Int) = r := by rw [← hr]; rfl
            have hrt : (nn : Int).tmod (n : Int) = r := by rw [Int.tmod_eq_emod_of_nonneg (by omega)]; exact hri
            have hrn : r < n := by rw [← hr]; exact Nat.mod_lt _ (by omega)
            obtain ⟨lb, lo, rfl, hlb, hcl⟩ := HA.out.cells (by have := HN.out; omega)
            have hcy := (HKW.out.cell hlb (by simp) (lo + r)).trans (hcl r (by have := HN.out; omega))
            have hv : wG1 B m L kk i k = L[r]?.getD 0 := by rw [HW1.out, hG, if_pos rfl, hr3, if_pos h0, HN.out, hr]
            clear hcl hr hr3
            generalize L[r]?.getD 0 = y at *
            have HP := (show Hid (WAt B m L kk i q (k + 1) (X.set k y) ∧ Row (wc.setCell ⟨g, k, none⟩ (.int .i64 y)) 3 g (X.set k y) ∧ Keep [g] w2 (wc.setCell ⟨g, k, none⟩ (.int .i64 y))) from ⟨HW.out.put hlt _ hv, HR.out.put k _, HK.out.trans (Keep.setCell _ _ (by simp))⟩)
            clear hv HW1
            go_wp2_with fail
            go_roundw
            case rel => exact ⟨k + 1, _, by go_num, by omega, HP.out.1, HP.out.2.1, HP.out.2.2⟩
            case measure => simp [intOf]; omega
          · obtain rfl : r3 = 0 := by omega
            have hv : wG1 B m L kk i k = 0 := by rw [HW1.out, hG, if_pos rfl, hr3, if_neg (by omega)]
            have HP := hid (HW.out.leave hv)
            clear hv HW1
            go_wp2_with fail
            go_roundw
            case rel => exact ⟨k + 1, _, by go_num, by omega, HP, HR, HK⟩
            case measure => simp [intOf]; omega
    · obtain rfl : k = q := by omega
      have d1 : decide ((k : Int) < (k : Int)) = false := decide_eq_false (by omega)
      have HKF := (show Hid (∀ wz, Keep [g] w2 wz → Keep [] w wz) from fun wz K => (HK2.out.mono (T := [g]) (by simp)).trans K |>.drop (by intro x hx' hxw; simp at hx'; omega))
      by_cases h4 : kk = 4
      · obtain rfl : k = 5 := H4.out h4
        subst h4
        obtain ⟨nb, no', rfl, hnb, hcn⟩ := HU.out.cells (by omega)
        have hlen := HW.out.len
        have hR0 := HR.out
        have hK0 := HK.out
        have HREF := hid HW.out.ref
        obtain ⟨v1, hv1⟩ : ∃ v1, ((B ((i * 5 + 2) % m) % 4 : Nat) : Int) - 1 = v1 := ⟨_, rfl⟩
        obtain ⟨p3, hp3⟩ : ∃ p3, i % m = p3 := ⟨_, rfl⟩
        have hp3m : p3 < m := by rw [← hp3]; exact Nat.mod_lt _ (by omega)
        have hp3i : (i : Int) % (m : Int) = p3 := by rw [← hp3]; rfl
        have hp3t : (i : Int).tmod (m : Int) = p3 := by rw [Int.tmod_eq_emod_of_nonneg (by omega)]; exact hp3i
        have hR1 := hR0.put 2 0
        have hK1 := hK0.trans (Keep.setCell (S := [g]) wr (a := ⟨g, 2, none⟩) (.int .i64 0) (by simp))
        have hR2' := hR1.put 1 v1
        have hK2' := hK1.trans (Keep.setCell (S := [g]) _ (a := ⟨g, 1, none⟩) (.int .i64 v1) (by simp))
        obtain ⟨b3, hb3⟩ : ∃ b3, B p3 = b3 := ⟨_, rfl⟩
        have hR3 := hR2'.put 3 (b3 : Int)
        have hK3 := hK2'.trans (Keep.setCell (S := [g]) _ (a := ⟨g, 3, none⟩) (.int .i64 (b3 : Int)) (by simp))
        have hR4 := hR3.put 4 ((i : Int) + 1)
        have hK4 := hK3.trans (Keep.setCell (S := [g]) _ (a := ⟨g, 4, none⟩) (.int .i64 ((i : Int) + 1)) (by simp))
        have hB3 := HU.out.lt p3
        rw [hb3] at hB3
        rw [hv1, hp3, hb3] at HREF
        rw [HREF.out] at hR4
        have e2 := hR0.cell (i := 2) (by rw [hlen]; omega)
        have f2 := hR0.free 2
        have e1 := hR1.cell (i := 1) (by rw [List.length_set, hlen]; omega)
        have f1 := hR1.free 1
        have e3 := hR2'.cell (i := 3) (by rw [List.length_set, List.length_set, hlen]; omega)
        have f3 := hR2'.free 3
        have e4 := hR3.cell (i := 4) (by rw [List.length_set, List.length_set, List.length_set, hlen]; omega)
        have f4 := hR3.free 4
        have hc3 := ((HKF.out _ hK2').cell hnb (by simp) (no' + p3)).trans (hcn p3 hp3m)
        rw [hb3] at hc3
        have HN3 := (show Hid (Calls Tryz.prog 56 #[.slice (some ⟨nb, no', none⟩) m nc, .int .i64 i] (wr.setCell ⟨g, 2, none⟩ (.int .i64 0)) fun e w' => e = .returned (.int .i64 v1) ∧ (wr.setCell ⟨g, 2, none⟩ (.int .i64 0)) = w') from by
          rw [← hv1]
          exact n3_17 _ m nc i B _ (HU.out.keep (HKF.out _ hK1) (by simp)) hm hi hm63)
        have HE := (show Hid (Row _ 3 g (wordsG B m L 4 5 i) ∧ Keep [] w _) from ⟨hR4, HKF.out _ hK4⟩)
        clear hR0 hK0 hR1 hK1 hR2' hK2' hR3 hK3 hR4 hK4 hcn hlen hp3 hb3
        generalize (X[2]?.getD 0) = o2 at *
        generalize ((X.set 2 0)[1]?.getD 0) = o1 at *
        generalize (((X.set 2 0).set 1 v1)[3]?.getD 0) = o3 at *
        generalize ((((X.set 2 0).set 1 v1).set 3 (b3 : Int))[4]?.getD 0) = o4 at *
        go_wp2_with (go_at_call 56; refine HN3.out.mono ?_; rintro e w' ⟨rfl, rfl⟩)
        go_ret
        exact ⟨g, rfl, HGW.out, HE.out.1, HE.out.2⟩
      · have h4b : (kk == 4) = false := by rw [beq_eq_false_iff_ne]; exact h4
        have HF := hid (HW.out.plain h4)
        go_wp2_with fail
        go_ret
        refine ⟨g, rfl, HGW.out, ?_, HKF.out _ HK.out⟩
        rw [← HF.out]; exact HR.out

end Go.Proofs.YtgpidokklhjfdaaGreat
