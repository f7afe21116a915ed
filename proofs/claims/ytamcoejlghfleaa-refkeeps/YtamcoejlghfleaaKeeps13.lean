/-
  RefKeeps: asked for again and again a reference tells the same, till it is cleared; others are not touched by that.
-/
import Derived.Test.YtamcoejlghfleaaClears13
import Derived.Test.YtamcoejlghfleaaOpens
import Derived.Deep.RegionHeld3
namespace Go.Proofs.Ytamcoejlghfleaa.refKeeps
open Go.RowKit

section
variable {kd : List PK} {ws D L : List Int} {u : Nat} {cl r q : Nat → Int} {t : Int}
/-- Asked for, one tells what it was made of, and all stays so. -/
theorem read_st (h : ST kd ws u D L cl r q) {i : Nat} (hi : i < L.length) (hc : cl i = 1 ∨ cl i = 2) (ht : inI t) : ∃ ws', ReadT kd ws (L[i]?.getD 0) t (r i) 0 ws' ∧ ST kd ws' u D L cl r q := by
  obtain ⟨b, _, _, _, e, hR⟩ := h.refs i hi
  by_cases h1 : cl i = 1 ∧ r i ≠ 0
  · have hR1 := hR.ref
    rw [h1.1] at hR1
    exact ⟨_, .soft b _ e hR1 hR.f0 h1.2, h.put (i := 3) hi e (by omega) ht (fun k _ => by simp) (fun k _ => by simp)⟩
  · exact ⟨ws, .plain b (cl i) _ e hR.ref (by omega) hR.f0 (by omega), h⟩
/-- One is cleared. -/
theorem clear_st (h : ST kd ws u D L cl r q) {j : Nat} (hj : j < L.length) : ∃ ws', ClearT kd ws [L[j]?.getD 0] 0 ws' ∧ ST kd ws' u D L cl (fun k => if k = j then 0 else r k) q := by
  obtain ⟨b, _, _, _, e, hR⟩ := h.refs j hj
  rw [e]
  exact ⟨_, hR.ref.clear, h.put (i := 0) hj e (by omega) inI_0 (fun k _ => by simp) (fun k _ => by simp)⟩
end
theorem _root_.Go.Proofs.Ytamcoejlghfleaa.Has.dcell {w0 w : World} {F0 : List Nat} {A B : Asn} {lb lo : Nat} {D : List Int} (h : Has w0 F0 ((A.star (listA (some ⟨lb, lo, none⟩) D)).star B) w) (i : Nat) (hi : i < D.length) : w.cell? ⟨lb, lo + i, none⟩ = some (.int .i64 (D[i]?.getD 0)) := by
  obtain ⟨b, off, e, _, hcs⟩ := h.fst.snd.list.cells (by omega)
  cases e
  exact hcs i hi
/-- The class of each. -/
def clF (B : Nat → Nat) (j : Nat) : Int := 1 + ((B j % 2 : Nat) : Int)
/-- The referent of each. -/
def rF (D : List Int) (j : Nat) : Int := D[j % 3]?.getD 0
theorem clF_or (B : Nat → Nat) (j : Nat) : clF B j = 1 ∨ clF B j = 2 := by unfold clF; omega

set_option maxRecDepth 100000 in
set_option maxHeartbeats 12800000 in
theorem walk (ao : Option Addr) (n c : Nat) (B : Nat → Nat) (a1 a2 : Int) (_ : n ≤ 9223372036854775807) (w1 : (Lit.int .u8 a1).wf = true) (w2 : (Lit.int .u8 a2).wf = true) (w : World) (u0 : U8At w ao n B) :
    Calls Try.prog 7 #[.slice ao n c, .int .u8 a1, .int .u8 a2] w fun e w' => e = .returned (.bool true) ∧ Keep [] w w' := by
  have h1 := bounds_u8 w1
  have h2 := bounds_u8 w2
  obtain ⟨wh, rfl⟩ := Int.eq_ofNat_of_zero_le h1.1
  obtain ⟨tm, rfl⟩ := Int.eq_ofNat_of_zero_le h2.1
  have hwh : wh < 256 := by omega
  have htm : tm < 256 := by omega
  have HB := hid u0
  clear u0 w1 w2 h1 h2
  obtain ⟨i0, hi, hz0, hz1, hz2⟩ := info_parts Try.infoInt13
  have hI : Hid (Try.prog.info? 3 = some i0 ∧ i0.zero = some (.int .i64 0) ∧ i0.size = 1 ∧ i0.bytes = 8) := ⟨hi, hz0, hz1, hz2⟩
  clear hi hz0 hz1 hz2
  obtain ⟨W, K, A, hC⟩ := dchain_ex 3 (by omega)
  have HC := hid hC
  obtain ⟨D, hD⟩ : ∃ D, aL A 3 = D := ⟨_, rfl⟩
  have HD := hid hD
  have HDL := (show Hid (D.length = 3) from by show _ = _; rw [← hD, aL_length])
  have hst := hC.st (clF B) (rF D) (fun _ => 1)
  rw [hD] at hst
  have HS0 := hid hst
  clear hC hst hD
  obtain ⟨m, hm⟩ : ∃ m, min n 9 = m := ⟨_, rfl⟩
  have hmi : min (n : Int) 9 = (m : Int) := by omega
  have hm9 : m ≤ 9 := by omega
  have hmn : m ≤ n := by omega
  clear hm
  go_enter Try.func7, Try.ntmps7
  go_wp2_with fail
  refine (made13 3 3 1 HC.out (by omega) (by omega) (by omega) _).mono ?_
  rintro e w1 ⟨hb, pb, qb, la0, lc, rfl, hX⟩
  rw [HD.out] at hX
  obtain ⟨lb, lo, rfl, _, _⟩ := hX.snd.list.cells (by rw [HDL.out]; omega)
  have HX1 := (show Hid (Has w [] (((prefA pb qb hb 0 (W 3) (K 3) [] (nQ 1)).star (listA (some ⟨lb, lo, none⟩) D)).star (ownA 3 none 0 0 [])) w1) from hX.ownNew 3)
  clear hX HD
  go_upto_region 5 with fail
  clear hmi
  go_wp2_with fail
  go_loopw [11, 12] (fun v i wr => ∃ (j cp : Nat) (la : Option Addr) (ws : List Int) (kd : List PK) (L : List Int), v = .slice la j cp ∧ i = .int .i64 j ∧ j ≤ m ∧ Hid (L.length = j) ∧ Hid (ST kd ws (3 + j) D L (clF B) (rF D) (fun _ => 1)) ∧ Hid (Has w [] (((prefA pb qb hb j ws kd [] (nQ 1)).star (listA (some ⟨lb, lo, none⟩) D)).star (ownA 3 la j cp L)) wr)) (fun _ i _ => m - (intOf i).toNat)
  case atStart => exact ⟨0, 0, none, _, _, [], rfl, rfl, by omega, rfl, HS0, HX1⟩
  case round =>
    obtain ⟨j, cp, la, ws, kd, L, rfl, rfl, hj, HL, HS, HX⟩ := hrel
    obtain ⟨w2, rfl⟩ : ∃ w2, w2 = wr := ⟨_, rfl⟩
    clear HX1 HS0
    by_cases hlt : j < m
    · have hdk : decide (j < m) = true := decide_eq_true hlt
      have hdk' : decide ((j : Int) < (m : Int)) = true := decide_eq_true (by omega)
      have hjni : (j : Int) < n := by omega
      have hj0i : (0 : Int) ≤ j := by omega
      obtain ⟨ab, aof, rfl, hab, hca⟩ := HB.out.cells (by omega)
      have hcb := (HX.out.K.cell hab (by simp) (aof + j)).trans (hca j (by omega))
      have hb0 := HB.out.lt j
      obtain ⟨b0, hb0e⟩ : ∃ b0, B j = b0 := ⟨_, rfl⟩
      have hca0 := hca j (by omega)
      rw [hb0e] at hcb hb0 hca0
      have HCA := hid hca0
      clear hca0
      obtain ⟨r2, hr2⟩ : ∃ r2, b0 % 2 = r2 := ⟨_, rfl⟩
      obtain ⟨mj, hmj⟩ : ∃ mj, j % 3 = mj := ⟨_, rfl⟩
      obtain ⟨s, hs⟩ : ∃ s : Int, 1 + (r2 : Int) = s := ⟨_, rfl⟩
      have hw0 : IntKind.i64.wrap (b0 : Int) = b0 := IntWalk.i64_in _ (by omega)
      have hri : (b0 : Int).tmod 2 = r2 := by rw [← hr2]; rfl
      have hw1 : IntKind.i64.wrap s = s := IntWalk.i64_in _ (by omega)
      have hmji : (j : Int).tmod 3 = mj := by rw [← hmj]; rfl
      have hm3 : mj < 3 := by omega
      have hm3i : (mj : Int) < 3 := by omega
      have hm0i : (0 : Int) ≤ mj := by omega
      obtain ⟨d, dm, ed, hO⟩ := HS.out.data mj (by rw [HDL.out]; exact hm3)
      have hdb := hO.facts HS.out.fine.wf
      have hdl : 64 ≤ d ∧ d ≤ 20000 := by have := HS.out.len; omega
      obtain ⟨b, ws2, kd2, hT, st2, _, _, hb1, hb2⟩ := HS.out.refer (n := 1) (S := j) (s := s) (a := d) (qq := 0) (t := 0) (by omega) (by omega) (by omega) (by omega) (by omega) (by omega) ⟨d, dm, _, _, _, _, rfl, hO⟩ (by omega) ⟨by omega, by omega⟩ ⟨by omega, by omega⟩ (by rw [HL.out]; unfold clF; rw [hb0e, hr2]; exact hs) (by rw [HL.out]; unfold rF; rw [hmj]; exact ed) rfl
      have HT := hid hT
      have HS2 := (show Hid (ST kd2 ws2 (3 + (j + 1)) D (L ++ [(b : Int)]) (clF B) (rF D) (fun _ => 1)) from st2)
      have HL2 := (show Hid ((L ++ [(b : Int)]).length = j + 1) from by show _ = _; rw [List.length_append, HL.out]; rfl)
      obtain ⟨_, _, e5, _, hcs⟩ := HX.out.fst.snd.list.cells (by rw [HDL.out]; omega)
      cases e5
      have hcl := hcs mj (by rw [HDL.out]; exact hm3)
      rw [ed] at hcl
      have HED := hid ed
      clear hca hb0e hr2 hmj hT st2 ed hO hdb hcs
      go_upto_region 9 with fail
      go_cut [13, 14] from 13 to 14 (fun v1 v2 wz => v1 = .int .i64 b ∧ v2 = .int .i64 0 ∧ Hid (Has w [] (((prefA pb qb hb ((j : Int) + 1) ws2 kd2 [] (nQ 1)).star (listA (some ⟨lb, lo, none⟩) D)).star (ownA 3 la j cp L)) wz))
      case first =>
        have d1 := ((Keep.drew [] w2).cell (lt_of_cell2' hcb) (by simp) (aof + j)).trans hcb
        have d2 := ((Keep.drew [] w2).cell (lt_of_cell2' hcl) (by simp) (lo + mj)).trans hcl
        go_region_held3 (fun wz => wz.cell? ⟨ab, aof + j, none⟩ = some (.int .u8 b0) ∧ wz.cell? ⟨lb, lo + mj, none⟩ = some (.int .i64 (d : Int))) (go_keep) (first | (go_at_call 9; refine (has_left (HX.out.keep0 (Keep.drew [] _)) (fun F hF => has_left hF (fun F hF => prefer 1 s d 0 0 b 0 ((j : Int) + 1) ws2 kd2 _ hF (nQ_length 1) HT.out ⟨by omega, by omega⟩ inI_0 (by omega)))).mono ?_; rintro e w3 ⟨rfl, hX3⟩; have k1 := (hX3.K.cell hab (by simp) (aof + j)).trans HCA.out; have k2 := hX3.dcell mj (by rw [HDL.out]; exact hm3); rw [HED.out] at k2))
        go_wp2_with fail
        go_meet
        exact ⟨rfl, rfl, hX3⟩
      case rest =>
        obtain ⟨rfl, rfl, HX3⟩ := hcut
        obtain ⟨w3, rfl⟩ : ∃ w3, w3 = wc := ⟨_, rfl⟩
        have HX4 := hid (HX3.out.keep0 (Keep.alloc [] w3 (.cells #[.int .i64 (b : Int)] 3)))
        clear HX3 HX hcl hcb hri hmji hs HT hw0 hw1
        go_wp2_with (first | (go_at_call 10; refine (err_any _ _).mono ?_; rintro e w' ⟨rfl, rfl⟩) | (at_builtin; refine wpList_append_lies _ rfl (.tmp 59) (.tmp 61) 24 rfl 0 3 i0 (.int .i64 0) 1 8 Try.underlying24 hI.out.1 hI.out.2.1 hI.out.2.2.1 hI.out.2.2.2 rfl (by decide) _ j (ints L) rfl HX4.out.snd.own ⟨w3.heap.size, 0, none⟩ 1 1 (ints [(b : Int)]) rfl rfl (one_cell _ _ _) (ints_one _) (by omega) (by unfold maxLen; omega) (by omega) (by omega) (w3.heap.size + 1) (by simp) ?_; intro ga ca w4 hown hgrow hblk hlt9; rw [ints_app] at hown; have HX5 := hid (HX4.out.ownMore hown hgrow hblk (by simp) hlt9); clear hown hgrow hblk hlt9))
        go_roundw
        case rel => exact ⟨j + 1, ca, some ⟨ga, 0, none⟩, ws2, kd2, L ++ [(b : Int)], rfl, by go_num, by omega, HL2, HS2, by simpa using HX5⟩
        case measure => simp [intOf]; omega
    · obtain rfl : j = m := by omega
      have hdk : decide (j < j) = false := decide_eq_false hlt
      have hdk' : decide ((j : Int) < (j : Int)) = false := decide_eq_false (by omega)
      go_upto_region 13 with fail
      clear hdk hdk' hlt hj
      by_cases hz : j = 0
      · subst hz
        go_wp2_with (first | (go_at_call 15; refine (awake13_any _).mono ?_; rintro e w9 ⟨rfl, hK9⟩))
        go_ret
        exact ⟨rfl, HX.out.K.trans hK9⟩
      · have hj1 : 1 ≤ j := by omega
        have hz' : ((j : Int) == 0) = false := by rw [beq_eq_false_iff_ne]; omega
        have hz'' : (j == 0) = false := by rw [beq_eq_false_iff_ne]; omega
        have HIN := hid (refClears.ST.inR HS.out)
        have HX2 := (show Hid (Has w [] (((prefA pb qb hb j ws kd [] (nQ 1)).star (listA (some ⟨lb, lo, none⟩) D)).star (listA la L)) w2) from (HX.out.comm.map (fun F g => by
          obtain ⟨F1, F2, hF, h1, h2, hd⟩ := g
          exact ⟨F1, F2, hF, ⟨h1.1, (own_at h1.2.1 HIN.out).1, h1.2.2⟩, h2, hd⟩)).comm)
        obtain ⟨gb, go, rfl, _, _⟩ := HX2.out.snd.list.cells (by have := HL.out; omega)
        obtain ⟨jj, hjj⟩ : ∃ jj, wh % j = jj := ⟨_, rfl⟩
        have hjl : jj < j := by rw [← hjj]; exact Nat.mod_lt _ (by omega)
        have hjji : (wh : Int) % (j : Int) = jj := by rw [← hjj]; rfl
        clear HX hjj
        go_upto_region 16 with fail
        rw [hjji]
        obtain ⟨t4, ht4⟩ : ∃ t4, tm % 4 = t4 := ⟨_, rfl⟩
        have ht4i : (tm : Int) % 4 = t4 := by omega
        obtain ⟨T, hT⟩ : ∃ T : Nat, 1 + t4 = T := ⟨_, rfl⟩
        have hTi : 1 + (t4 : Int) = T := by omega
        have hT4 : T ≤ 4 := by omega
        clear hjji ht4 hT hz hz' hz''
        go_wp2_with fail
        go_loopw [16] (fun i wr => ∃ (p : Nat) (ws : List Int), i = .int .i64 p ∧ p ≤ T ∧ Hid (ST kd ws (3 + j) D L (clF B) (rF D) (fun _ => 1)) ∧ Hid (Has w [] (((prefA pb qb hb j ws kd [] (nQ 1)).star (listA (some ⟨lb, lo, none⟩) D)).star (listA (some ⟨gb, go, none⟩) L)) wr)) (fun i _ => T - (intOf i).toNat)
        case atStart => exact ⟨0, ws, rfl, by omega, HS, HX2⟩
        case round =>
          obtain ⟨p, ws3, rfl, hp, HS3, HX3⟩ := hrel
          obtain ⟨w3, rfl⟩ : ∃ w3, w3 = wr := ⟨_, rfl⟩
          clear HX2 HS
          by_cases hpT : p < T
          · have hdp : decide (p < T) = true := decide_eq_true hpT
            have hdp' : decide ((p : Int) < (T : Int)) = true := decide_eq_true (by omega)
            go_wp2_with fail
            clear hdp hdp' ht4i hTi
            go_loopw [17] (fun i wr => ∃ (v : Nat) (ws : List Int), i = .int .i64 v ∧ v ≤ j ∧ Hid (ST kd ws (3 + j) D L (clF B) (rF D) (fun _ => 1)) ∧ Hid (Has w [] (((prefA pb qb hb j ws kd [] (nQ 1)).star (listA (some ⟨lb, lo, none⟩) D)).star (listA (some ⟨gb, go, none⟩) L)) wr)) (fun i _ => j - (intOf i).toNat)
            case atStart => exact ⟨0, ws3, rfl, by omega, HS3, HX3⟩
            case round =>
              obtain ⟨v, ws4, rfl, hv, HS4, HX4⟩ := hrel
              obtain ⟨w4, rfl⟩ : ∃ w4, w4 = wr := ⟨_, rfl⟩
              clear HX3 HS3
              by_cases hvj : v < j
              · have hdv : decide (v < j) = true := decide_eq_true hvj
                have hdv' : decide ((v : Int) < (j : Int)) = true := decide_eq_true (by omega)
                have hvi : (v : Int) < j := by omega
                have hv0 : (0 : Int) ≤ v := by omega
                obtain ⟨_, _, e5, _, hcs⟩ := HX4.out.snd.list.cells (by have := HL.out; omega)
                cases e5
                have hcv := hcs v (by have := HL.out; omega)
                obtain ⟨ws5, hRD, hS5⟩ := read_st (t := p) HS4.out (i := v) (by have := HL.out; omega) (clF_or B v) ⟨by omega, by omega⟩
                have HRD := hid hRD
                have HS5 := hid hS5
                obtain ⟨mv, hmv⟩ : ∃ mv, v % 3 = mv := ⟨_, rfl⟩
                have hmvi : (v : Int) % 3 = mv := by omega
                have hm3 : mv < 3 := by omega
                have hm3i : (mv : Int) < 3 := by omega
                have hm0i : (0 : Int) ≤ mv := by omega
                obtain ⟨x, hx⟩ : ∃ x, rF D v = x := ⟨_, rfl⟩
                have hxD : D[mv]?.getD 0 = x := by rw [← hx, ← hmv]; rfl
                rw [hx] at HRD
                generalize L[v]?.getD 0 = z at *
                clear hcs hRD hS5 hmv hx
                go_wp2_with fail
                refine (has_left HX4.out (fun F hF => has_left hF (fun F hF => pread z p x 0 _ _ hF HRD.out ⟨by omega, by omega⟩))).mono ?_
                rintro e w5 ⟨rfl, hX5⟩
                have HX5 := hid hX5
                clear hX5 HX4 hcv HRD
                obtain ⟨_, _, e5, _, hcs⟩ := HX5.out.fst.snd.list.cells (by rw [HDL.out]; omega)
                cases e5
                have hcl := hcs mv (by rw [HDL.out]; exact hm3)
                rw [hxD] at hcl
                clear hcs hxD
                go_wp2_with (first | (go_at_call 10; refine (err_any _ _).mono ?_; rintro e w' ⟨rfl, rfl⟩))
                go_roundw
                case rel => exact ⟨v + 1, ws5, by go_num, by omega, HS5, HX5⟩
                case measure => simp [intOf]; omega
              · obtain rfl : v = j := by omega
                have hdv : decide (v < v) = false := decide_eq_false hvj
                have hdv' : decide ((v : Int) < (v : Int)) = false := decide_eq_false (by omega)
                go_wp2_with fail
                go_roundw
                case rel => exact ⟨p + 1, ws4, by go_num, by omega, HS4, HX4⟩
                case measure => simp [intOf]; omega
          · obtain rfl : p = T := by omega
            have hdp : decide (p < p) = false := decide_eq_false hpT
            have hdp' : decide ((p : Int) < (p : Int)) = false := decide_eq_false (by omega)
            obtain ⟨_, _, e5, _, hcs⟩ := HX3.out.snd.list.cells (by have := HL.out; omega)
            cases e5
            have hcj := hcs jj (by have := HL.out; omega)
            have hjji : (jj : Int) < j := by omega
            have hjj0 : (0 : Int) ≤ jj := by omega
            obtain ⟨ws5, hCL, hS5⟩ := clear_st HS3.out (j := jj) (by have := HL.out; omega)
            have HCL := hid hCL
            have HS5 := hid hS5
            have HZ := (show Hid (inI (L[jj]?.getD 0)) from refClears.ST.inR HS3.out jj)
            generalize L[jj]?.getD 0 = z at *
            clear hcs hCL hS5 hpT
            go_upto_region 25 with fail
            clear hdp hdp' ht4i hTi
            go_wp2_with fail
            refine (pclear (some ⟨w3.heap.size, 0, none⟩) 1 1 [z] 0 ws5 _ (HX3.out.assoc.single z HZ.out).assoc (fun _ _ h => by obtain ⟨_, _, _, _, h2, _⟩ := h; exact h2.2.1) rfl (by omega) HCL.out).mono ?_
            rintro e w4 ⟨rfl, hX4⟩
            have HX4 := hid hX4.assoc'.fst.assoc'
            clear hX4 HX3 hcj HCL
            go_wp2_with fail
            go_loopw [21] (fun i wr => ∃ (v : Nat) (ws : List Int), i = .int .i64 v ∧ v ≤ j ∧ Hid (ST kd ws (3 + j) D L (clF B) (fun k => if k = jj then 0 else rF D k) (fun _ => 1)) ∧ Hid (Has w [] (((prefA pb qb hb j ws kd [] (nQ 1)).star (listA (some ⟨lb, lo, none⟩) D)).star (listA (some ⟨gb, go, none⟩) L)) wr)) (fun i _ => j - (intOf i).toNat)
            case atStart => exact ⟨0, ws5, rfl, by omega, HS5, HX4⟩
            case round =>
              obtain ⟨v, ws6, rfl, hv, HS6, HX6⟩ := hrel
              obtain ⟨w6, rfl⟩ : ∃ w6, w6 = wr := ⟨_, rfl⟩
              clear HX4 HS5
              by_cases hvj : v < j
              · have hdv : decide (v < j) = true := decide_eq_true hvj
                have hdv' : decide ((v : Int) < (j : Int)) = true := decide_eq_true (by omega)
                have hvi : (v : Int) < j := by omega
                have hv0 : (0 : Int) ≤ v := by omega
                obtain ⟨_, _, e5, _, hcs⟩ := HX6.out.snd.list.cells (by have := HL.out; omega)
                cases e5
                have hcv := hcs v (by have := HL.out; omega)
                obtain ⟨ws7, hRD, hS7⟩ := read_st (t := 9) HS6.out (i := v) (by have := HL.out; omega) (clF_or B v) ⟨by omega, by omega⟩
                have HRD := hid hRD
                have HS7 := hid hS7
                generalize L[v]?.getD 0 = z at *
                clear hcs hRD hS7
                by_cases hvv : v = jj
                · rw [if_pos hvv] at HRD
                  subst hvv
                  go_wp2_with fail
                  refine (has_left HX6.out (fun F hF => has_left hF (fun F hF => pread z 9 0 0 _ _ hF HRD.out ⟨by omega, by omega⟩))).mono ?_
                  rintro e w7 ⟨rfl, hX7⟩
                  have HX7 := hid hX7
                  clear hX7 HX6 hcv HRD
                  go_wp2_with (first | (go_at_call 10; refine (err_any _ _).mono ?_; rintro e w' ⟨rfl, rfl⟩))
                  go_roundw
                  case rel => exact ⟨v + 1, ws7, by go_num, by omega, HS7, HX7⟩
                  case measure => simp [intOf]; omega
                · have e1 : (v == jj) = false := by simpa using hvv
                  have e1' : ((v : Int) == (jj : Int)) = false := by rw [beq_eq_false_iff_ne]; omega
                  have e2 : (v != jj) = true := by rw [bne_iff_ne]; exact hvv
                  have e2' : ((v : Int) != (jj : Int)) = true := by rw [bne_iff_ne]; omega
                  rw [if_neg hvv] at HRD
                  obtain ⟨mv, hmv⟩ : ∃ mv, v % 3 = mv := ⟨_, rfl⟩
                  have hmvi : (v : Int) % 3 = mv := by omega
                  have hm3 : mv < 3 := by omega
                  have hm3i : (mv : Int) < 3 := by omega
                  have hm0i : (0 : Int) ≤ mv := by omega
                  obtain ⟨x, hx⟩ : ∃ x, rF D v = x := ⟨_, rfl⟩
                  have hxD : D[mv]?.getD 0 = x := by rw [← hx, ← hmv]; rfl
                  rw [hx] at HRD
                  clear hmv hx hvv
                  go_wp2_with fail
                  refine (has_left HX6.out (fun F hF => has_left hF (fun F hF => pread z 9 x 0 _ _ hF HRD.out ⟨by omega, by omega⟩))).mono ?_
                  rintro e w7 ⟨rfl, hX7⟩
                  have HX7 := hid hX7
                  clear hX7 HX6 hcv HRD
                  obtain ⟨_, _, e5, _, hcs⟩ := HX7.out.fst.snd.list.cells (by rw [HDL.out]; omega)
                  cases e5
                  have hcl := hcs mv (by rw [HDL.out]; exact hm3)
                  rw [hxD] at hcl
                  clear hcs hxD
                  go_wp2_with (first | (go_at_call 10; refine (err_any _ _).mono ?_; rintro e w' ⟨rfl, rfl⟩))
                  go_roundw
                  case rel => exact ⟨v + 1, ws7, by go_num, by omega, HS7, HX7⟩
                  case measure => simp [intOf]; omega
              · obtain rfl : v = j := by omega
                have hdv : decide (v < v) = false := decide_eq_false hvj
                have hdv' : decide ((v : Int) < (v : Int)) = false := decide_eq_false (by omega)
                go_wp2_with (first | (go_at_call 10; refine (err_any _ _).mono ?_; rintro e w' ⟨rfl, rfl⟩) | (go_at_call 15; refine (awake13_any _).mono ?_; rintro e w9 ⟨rfl, hK9⟩))
                go_ret
                exact ⟨rfl, HX6.out.K.trans hK9⟩

end Go.Proofs.Ytamcoejlghfleaa.refKeeps
