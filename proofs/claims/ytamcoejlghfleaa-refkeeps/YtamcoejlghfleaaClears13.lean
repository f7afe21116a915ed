/-
  RefClears: of many at once all are cleared, or none, where one is no reference; a cleared one is not put anywhere by that.
-/
import Derived.Test.YtamcoejlghfleaaPart6
import Derived.Test.YtamcoejlghfleaaStepInts
import Derived.Deep.CutBlock
import Derived.Deep.CutRange
namespace Go.Proofs.Ytamcoejlghfleaa.refClears
open Go.RowKit

/-- Cleared one by one. -/
theorem clr_st {kd : List PK} {ws D L : List Int} {u : Nat} {cl q : Nat → Int} {a : Int} (h : ST kd ws u D L cl (fun _ => a) q) : ∀ m, m ≤ L.length → ST kd (clrN ws L m) u D L cl (fun i => if i < m then 0 else a) q := by
  intro m
  induction m with
  | zero => intro _; exact ⟨h.fine, h.len, h.free, h.data, fun j hj => by
    obtain ⟨b, nx, s, t, e, hR⟩ := h.refs j hj
    refine ⟨b, nx, s, t, e, ?_⟩
    show RF kd ws b (cl j) (if j < 0 then 0 else a) (q j) nx s t
    rw [if_neg (by omega)]
    exact hR, h.ne⟩
  | succ m ih =>
    intro hm
    have h1 := ih (by omega)
    obtain ⟨b, _, _, _, e, _⟩ := h1.refs m (by omega)
    have h2 := h1.put (i := 0) (j := m) (b := b) (x := 0) (by omega) e (by omega) inI_0 (r' := fun i => if i < m + 1 then 0 else a) (q' := q) (fun k hk => by
      by_cases e : k = m
      · simp [e]
      · by_cases e2 : k < m
        · simp [e, e2, show k < m + 1 by omega]
        · simp [e, e2, show ¬ k < m + 1 by omega]) (fun k hk => by simp)
    show ST kd ((clrN ws L m).set ((L[m]?.getD 0).toNat + 1) 0) u D L cl _ q
    rw [e]
    exact h2
/-- What of them is cleared: all, or none. -/
theorem clears {kd : List PK} {ws D L : List Int} {u : Nat} {d y : Int} (odd : Bool) (h : ST kd ws u D L (fun _ => 2) (fun _ => d) (fun _ => 1)) (hy : StrT kd ws y 0) : ∃ E x ws', ClearT kd ws (if odd then L ++ [y] else L) E ws' ∧ ST kd ws' u D L (fun _ => 2) (fun _ => x) (fun _ => 1) ∧ ((odd = true ∧ E = 5 ∧ x = d) ∨ (odd = false ∧ E = 0 ∧ x = 0)) := by
  have hr : ∀ i, i < L.length → ∃ (b : Nat) (c : Int), L[i]?.getD 0 = b ∧ RefC kd ws b c := fun i hi => by
    obtain ⟨b, _, _, _, e, hR⟩ := h.refs i hi
    exact ⟨b, _, e, hR.ref⟩
  cases odd
  · have h2 := clr_st h L.length (Nat.le_refl _)
    exact ⟨0, 0, _, .yes hr, ⟨h2.fine, h2.len, h2.free, h2.data, fun j hj => by simpa [hj] using h2.refs j hj, h2.ne⟩, .inr ⟨rfl, rfl, rfl⟩⟩
  · refine ⟨5, d, _, .kind L.length (by simp) (fun i hi => ?_) ?_, h, .inl ⟨rfl, rfl, rfl⟩⟩
    · obtain ⟨b, c, e, hR⟩ := hr i hi
      exact ⟨b, c, by show (L ++ [y])[i]?.getD 0 = _; rw [List.getElem?_append_left hi]; exact e, hR⟩
    · simpa using hy
theorem ST.inR {kd : List PK} {ws D L : List Int} {u : Nat} {cl r q : Nat → Int} (h : ST kd ws u D L cl r q) : ∀ i : Nat, -9223372036854775808 ≤ L[i]?.getD 0 ∧ L[i]?.getD 0 ≤ 9223372036854775807 := by
  intro i
  rcases Nat.lt_or_ge i L.length with hi | hi
  · obtain ⟨b, _, _, _, e, hR⟩ := h.refs i hi
    rw [e]
    exact hR.ref.inI h.fine
  · rw [List.getElem?_eq_none hi]; simp
theorem ST.read2 {kd : List PK} {ws D L : List Int} {u : Nat} {x t : Int} {r q : Nat → Int} (h : ST kd ws u D L (fun _ => 2) r q) {i : Nat} (hi : i < L.length) (hx : r i = x) : ReadT kd ws (L[i]?.getD 0) t x 0 ws := by
  obtain ⟨b, _, _, _, e, hR⟩ := h.refs i hi
  rw [hx] at hR
  exact .plain b 2 x e hR.ref (by omega) hR.f0 (.inl (by omega))

set_option maxRecDepth 100000 in
set_option maxHeartbeats 12800000 in
theorem clears_any (n s k : Nat) (odd : Bool) (w : World) (_ : n < 256) (hs : (n : Int) % 9 = s) (hk : 1 + (s : Int) = k) (hk9 : k ≤ 9) (hk1 : 1 ≤ k) :
    Calls Try.prog 6 #[.int .u8 n, .bool odd] w fun e w' => e = .returned (.bool true) ∧ Keep [] w w' := by
  obtain ⟨i0, hi, hz0, hz1, hz2⟩ := info_parts Try.infoInt13
  have hI : Hid (Try.prog.info? 3 = some i0 ∧ i0.zero = some (.int .i64 0) ∧ i0.size = 1 ∧ i0.bytes = 8) := ⟨hi, hz0, hz1, hz2⟩
  clear hi hz0 hz1 hz2
  obtain ⟨W, K, A, hC⟩ := dchain_ex 2 (by omega)
  have HC := hid hC
  obtain ⟨d, hd⟩ : ∃ a, A 0 = a := ⟨_, rfl⟩
  obtain ⟨d1, hd1⟩ : ∃ a, A 1 = a := ⟨_, rfl⟩
  have hb0 := hC.bd 0 (by omega)
  have hb1 := hC.bd 1 (by omega)
  rw [hd] at hb0
  rw [hd1] at hb1
  have HD := (show Hid (aL A 2 = [(d : Int), (d1 : Int)]) from by show _ = _; rw [← hd, ← hd1]; rfl)
  have hst := hC.st (fun _ => 2) (fun _ => (d : Int)) (fun _ => 1)
  rw [HD.out] at hst
  have HS0 := hid hst
  clear hC hst hd hd1
  go_enter Try.func6, Try.ntmps6
  go_wp2_with fail
  refine (made13 2 2 1 HC.out (by omega) (by omega) (by omega) _).mono ?_
  rintro e w1 ⟨hb, pb, qb, la0, lc, rfl, hX⟩
  rw [HD.out] at hX
  obtain ⟨lb, lo, rfl, _, _⟩ := hX.snd.list.cells (by simp)
  have HX1 := (show Hid (Has w [] (((prefA pb qb hb 0 (W 2) (K 2) [] (nQ 1)).star (listA (some ⟨lb, lo, none⟩) [(d : Int), (d1 : Int)])).star (ownA 3 none 0 0 [])) w1) from hX.ownNew 3)
  clear hX HD
  go_wp2_with fail
  clear hs hk
  go_loopw [9, 10] (fun v i wr => ∃ (j cp : Nat) (la : Option Addr) (ws : List Int) (kd : List PK) (L : List Int), v = .slice la j cp ∧ i = .int .i64 j ∧ j ≤ k ∧ Hid (L.length = j) ∧ Hid (ST kd ws (2 + j) [(d : Int), (d1 : Int)] L (fun _ => 2) (fun _ => (d : Int)) (fun _ => 1)) ∧ Hid (Has w [] (((prefA pb qb hb j ws kd [] (nQ 1)).star (listA (some ⟨lb, lo, none⟩) [(d : Int), (d1 : Int)])).star (ownA 3 la j cp L)) wr)) (fun _ i _ => k - (intOf i).toNat)
  case atStart => exact ⟨0, 0, none, _, _, [], rfl, rfl, by omega, rfl, HS0, HX1⟩
  case round =>
    obtain ⟨j, cp, la, ws, kd, L, rfl, rfl, hj, HL, HS, HX⟩ := hrel
    obtain ⟨w2, rfl⟩ : ∃ w2, w2 = wr := ⟨_, rfl⟩
    clear HX1 HS0
    by_cases hlt : j < k
    · have hdk : decide (j < k) = true := decide_eq_true hlt
      have hdk' : decide ((j : Int) < (k : Int)) = true := decide_eq_true (by omega)
      obtain ⟨b, ws2, kd2, hT, st2, _, _, hb1, hb2⟩ := HS.out.refer (n := 1) (S := j) (s := 2) (a := d) (qq := 0) (t := 0) (by omega) (by omega) (by omega) (by omega) (by omega) (by omega) (HS.out.objs 0 (by simp)) (by omega) ⟨by omega, by omega⟩ ⟨by omega, by omega⟩ rfl rfl rfl
      have HT := hid hT
      have HS2 := (show Hid (ST kd2 ws2 (2 + (j + 1)) [(d : Int), (d1 : Int)] (L ++ [(b : Int)]) (fun _ => 2) (fun _ => (d : Int)) (fun _ => 1)) from st2)
      have HL2 := (show Hid ((L ++ [(b : Int)]).length = j + 1) from by show _ = _; rw [List.length_append, HL.out]; rfl)
      obtain ⟨_, _, e5, _, hcs⟩ := HX.out.fst.snd.list.cells (by simp)
      cases e5
      have hc0 : w2.cell? ⟨lb, lo, none⟩ = some (.int .i64 (d : Int)) := by simpa using hcs 0 (by simp)
      clear hT st2 hcs
      go_wp2_with fail
      refine (has_left HX.out (fun F hF => has_left hF (fun F hF => prefer 1 2 d 0 0 b 0 ((j : Int) + 1) ws2 kd2 _ hF (nQ_length 1) HT.out ⟨by omega, by omega⟩ inI_0 (by omega)))).mono ?_
      rintro e w3 ⟨rfl, hX3⟩
      have HX4 := hid (hX3.keep0 (Keep.alloc [] w3 (.cells #[.int .i64 (b : Int)] 3)))
      clear hX3 HX hc0
      go_wp2_with (first | (go_at_call 10; refine (err_any _ _).mono ?_; rintro e w' ⟨rfl, rfl⟩) | (at_builtin; refine wpList_append_lies _ rfl (.tmp 47) (.tmp 49) 24 rfl 0 3 i0 (.int .i64 0) 1 8 Try.underlying24 hI.out.1 hI.out.2.1 hI.out.2.2.1 hI.out.2.2.2 rfl (by decide) _ j (ints L) rfl HX4.out.snd.own ⟨w3.heap.size, 0, none⟩ 1 1 (ints [(b : Int)]) rfl rfl (one_cell _ _ _) (ints_one _) (by omega) (by unfold maxLen; omega) (by omega) (by omega) (w3.heap.size + 1) (by simp) ?_; intro ga ca w4 hown hgrow hblk hlt9; rw [ints_app] at hown; have HX5 := hid (HX4.out.ownMore hown hgrow hblk (by simp) hlt9); clear hown hgrow hblk hlt9))
      go_roundw
      case rel => exact ⟨j + 1, ca, some ⟨ga, 0, none⟩, ws2, kd2, L ++ [(b : Int)], rfl, by go_num, by omega, HL2, HS2, by simpa using HX5⟩
      case measure => simp [intOf]; omega
    · obtain rfl : j = k := by omega
      have hdk : decide (j < j) = false := decide_eq_false hlt
      have hdk' : decide ((j : Int) < (j : Int)) = false := decide_eq_false (by omega)
      have HIN := hid (ST.inR HS.out)
      have HX2 := (show Hid (Has w [] (((prefA pb qb hb j ws kd [] (nQ 1)).star (listA (some ⟨lb, lo, none⟩) [(d : Int), (d1 : Int)])).star (listA la L)) w2) from (HX.out.comm.map (fun F g => by
        obtain ⟨F1, F2, hF, h1, h2, hd⟩ := g
        exact ⟨F1, F2, hF, ⟨h1.1, (own_at h1.2.1 HIN.out).1, h1.2.2⟩, h2, hd⟩)).comm)
      obtain ⟨gb, go, rfl, _, _⟩ := HX2.out.snd.list.cells (by have := HL.out; omega)
      obtain ⟨y, hy⟩ : ∃ y : Int, (d1 : Int) = y := ⟨_, rfl⟩
      have hyS : StrT kd ws y 0 := by
        obtain ⟨dd, m, e, hO⟩ := HS.out.data 1 (by simp)
        have : y = (dd : Int) := by rw [← hy]; simpa using e
        rw [this]
        exact .no 3 0 2 0 false (.yes dd m 3 0 2 false hO) (by omega)
      have HY := (show Hid (-9223372036854775808 ≤ y ∧ y ≤ 9223372036854775807) from by show _ ∧ _; omega)
      obtain ⟨E, x, ws', hCT, hST', hor⟩ := clears odd HS.out hyS
      have HCT := hid hCT
      have HST := hid hST'
      rw [hy] at HX2
      clear HX hyS hCT hST' hlt HS hb1
      go_upto_if 52 with fail
      go_cut [13] from 13 to 13 (fun v wz => ∃ (lx : Option Addr) (m cx : Nat) (Bx : Asn), v = .slice lx m cx ∧ m ≤ 10 ∧ Hid ((if odd then L ++ [y] else L).length = m) ∧ Hid (Has w [] ((prefA pb qb hb j ws kd [] (nQ 1)).star Bx) wz) ∧ Hid (∀ w F, Bx.at' w F → IntsAt w (some ⟨lb, lo, none⟩) [(d : Int), y]) ∧ Hid (∀ w F, Bx.at' w F → IntsAt w (some ⟨gb, go, none⟩) L) ∧ Hid (∀ w F, Bx.at' w F → IntsAt w lx (if odd then L ++ [y] else L)))
      case first =>
        cases odd
        · go_wp2_with fail
          go_meet
          refine ⟨some ⟨gb, go, none⟩, j, cp, (listA (some ⟨lb, lo, none⟩) [(d : Int), y]).star (listA (some ⟨gb, go, none⟩) L), rfl, by omega, HL.out, HX2.out.assoc, fun w F h => ?_, fun w F h => ?_, fun w F h => ?_⟩
          · obtain ⟨_, _, _, h2, _, _⟩ := h; exact h2.2.1
          · obtain ⟨_, _, _, _, h2, _⟩ := h; exact h2.2.1
          · obtain ⟨_, _, _, _, h2, _⟩ := h; exact h2.2.1
        · have hIA := HX2.out.snd.list
          have HIA := hid hIA
          have HLEN := hid HL.out
          obtain ⟨_, _, e5, hlb, hcs⟩ := HX2.out.fst.snd.list.cells (by simp)
          cases e5
          have hc1 : w2.cell? ⟨lb, lo + 1, none⟩ = some (.int .i64 y) := by simpa using hcs 1 (by simp)
          have HCW := (show Hid (∀ wz, Keep [] w2 wz → wz.cell? ⟨lb, lo + 1, none⟩ = some (.int .i64 y)) from fun wz K => (K.cell hlb (by simp) _).trans hc1)
          have hc1a : ∀ o, (w2.alloc o).drew.cell? ⟨lb, lo + 1, none⟩ = some (.int .i64 y) := fun o => HCW.out _ ((Keep.alloc [] w2 o).trans (Keep.drew [] _))
          have hc1b : w2.drew.cell? ⟨lb, lo + 1, none⟩ = some (.int .i64 y) := HCW.out _ (Keep.drew [] _)
          have hj9 : j ≤ 9 := hk9
          clear hIA hcs
          go_upto_region 15 with fail
          go_region_law (first
            | (refine step_append_ints rfl (.tmp 53) (.tmp 54) 24 rfl w2.heap.size 3 i0 Try.underlying24 hI.out (.slice (some ⟨_, 0, none⟩) 0 0) 0 [] L rfl (own_emptyB (by first | exact nA _ _ | exact nB _ _ _ | exact nC _ _ _) (by omega)) _ j cp HLEN.out rfl (HIA.out.keep (S := []) (by first | exact (Keep.alloc [] w2 _).trans (Keep.drew [] _) | exact ((Keep.alloc [] w2 _).trans (Keep.alloc [] _ _)).trans (Keep.drew [] _)) (fun _ _ _ => by simp)) (by simp) (by omega) (by first | (simp; done) | (simp; omega)) ?_
               intro v5 w5 hown5 hgrow5
               have hK5 : Keep [] w2 w5 := (show Keep [] w2 _ from by first | exact (Keep.alloc [] w2 _).trans (Keep.drew [] _) | exact ((Keep.alloc [] w2 _).trans (Keep.alloc [] _ _)).trans (Keep.drew [] _)).grown hgrow5 (fun z e => by simp [Value.ownBlock] at e; omega)
               have hc15 := HCW.out _ hK5
               first
                 | (have HY5 := (show Hid (IntsAt w5 (some ⟨w2.heap.size + 1, 0, none⟩) [y]) from IntsAt.grew (nC _ _ _) hgrow5 (by simp [Value.ownBlock]) HY.out.1 HY.out.2))
                 | (have HY5 := (show Hid (IntsAt w5 (some ⟨w2.heap.size, 0, none⟩) [y]) from IntsAt.grew (nB _ _ _) hgrow5 (by simp [Value.ownBlock]) HY.out.1 HY.out.2))
                 | skip
               rw [Nat.zero_add, List.nil_append] at hown5
               have HO5 := (show Hid (w5.ownsRow w2.heap.size 3 1 v5 j (ints L)) from hown5)
               have HK5 := (show Hid (Keep [] w2 w5) from hK5)
               clear hown5 hgrow5 hK5)
            | (refine step_append_ints rfl (.tmp 55) (.tmp 59) 24 rfl w2.heap.size 3 i0 Try.underlying24 hI.out v5 j L [y] rfl (by first | exact HO5.out | exact HO5.out.alloc _) _ 1 1 rfl rfl (by first | exact HY5.out | exact IntsAt.oneB (heap_alloc_new _ _) HY.out.1 HY.out.2) (by simp) (by omega) (by have := HK5.out.size; simp; omega) ?_
               intro v6 w6 hown6 hgrow6
               have HK6 := (show Hid (Keep [] w2 w6) from (show Keep [] w2 _ from by first | exact HK5.out | exact HK5.out.trans (Keep.alloc [] _ _)).grown hgrow6 (own_block HO5.out))
               have HO6 := (show Hid (w6.ownsRow w2.heap.size 3 1 v6 (j + 1) (ints (L ++ [y]))) from hown6)
               clear hown6 hgrow6))
          all_goals (go_wp2_with fail)
          all_goals go_meet
          all_goals
            obtain ⟨lx, cx, rfl, _, hXX⟩ := HX2.out.listed HK6.out HO6.out (fun i => by
              rw [snoc_at13]
              split
              · exact HIN.out i
              · split
                · exact HY.out
                · exact ⟨by omega, by omega⟩)
            refine ⟨lx, (L ++ [y]).length, cx, (listA (some ⟨lb, lo, none⟩) [(d : Int), y]).star ((listA (some ⟨gb, go, none⟩) L).star (listA lx (L ++ [y]))), rfl, by rw [List.length_append, HLEN.out]; simp; omega, rfl, hXX.assoc.assoc, fun w F h => ?_, fun w F h => ?_, fun w F h => ?_⟩
            · obtain ⟨_, _, _, h2, _, _⟩ := h; exact h2.2.1
            · obtain ⟨_, _, _, _, ⟨_, _, _, h2, _, _⟩, _⟩ := h; exact h2.2.1
            · obtain ⟨_, _, _, _, ⟨_, _, _, _, h2, _⟩, _⟩ := h; exact h2.2.1
      case rest =>
        obtain ⟨lx, m, cx, Bx, rfl, hm, HM, HX3, HBD, HBL, HBM⟩ := hcut
        obtain ⟨w3, rfl⟩ : ∃ w3, w3 = wc := ⟨_, rfl⟩
        clear HX2
        go_wp2_with fail
        refine (pclear lx m cx _ E ws' _ HX3.out HBM.out HM.out (by omega) HCT.out).mono ?_
        rintro e w4 ⟨rfl, hX4⟩
        have HX4 := hid hX4
        clear hX4 HX3 HBM
        go_upto_region 17 with (first | (go_at_call 10; refine (err_any _ _).mono ?_; rintro e w' ⟨rfl, rfl⟩))
        go_wp2_with fail
        go_loopw [15] (fun i wr => ∃ p : Nat, i = .int .i64 p ∧ p ≤ j ∧ Hid (Has w [] ((prefA pb qb hb j ws' kd [] (nQ 1)).star Bx) wr)) (fun i _ => j - (intOf i).toNat)
        case atStart => exact ⟨0, rfl, by omega, HX4⟩
        case round =>
          obtain ⟨p, rfl, hp, HX⟩ := hrel
          obtain ⟨w5, rfl⟩ : ∃ w5, w5 = wr := ⟨_, rfl⟩
          clear HX4
          by_cases hlt : p < j
          · have hdp : decide (p < j) = true := decide_eq_true hlt
            have hdp' : decide ((p : Int) < (j : Int)) = true := decide_eq_true (by omega)
            have hpi : (p : Int) < j := by omega
            have hp0 : (0 : Int) ≤ p := by omega
            obtain ⟨_, _, e5, _, hcs⟩ := (HX.out.snd.fact (fun F h => HBL.out _ F h)).cells (by have := HL.out; omega)
            cases e5
            have hcp := hcs p (by have := HL.out; omega)
            have HRD := hid (ST.read2 (x := x) (t := 0) HST.out (i := p) (by have := HL.out; omega) rfl)
            generalize L[p]?.getD 0 = z at *
            clear hcs
            go_wp2_with fail
            refine (has_left HX.out (fun F hF => pread z 0 x 0 _ _ hF HRD.out inI_0)).mono ?_
            rintro e w6 ⟨rfl, hX6⟩
            have HX6 := hid hX6
            clear hX6 HX hcp HRD
            rcases hor with ⟨rfl, rfl, rfl⟩ | ⟨rfl, rfl, rfl⟩
            · obtain ⟨_, _, e5, _, hcs⟩ := (HX6.out.snd.fact (fun F h => HBD.out _ F h)).cells (by simp)
              cases e5
              have hc0 : w6.cell? ⟨lb, lo, none⟩ = some (.int .i64 (d : Int)) := by simpa using hcs 0 (by simp)
              clear hcs
              go_wp2_with (first | (go_at_call 10; refine (err_any _ _).mono ?_; rintro e w' ⟨rfl, rfl⟩))
              go_roundw
              case rel => exact ⟨p + 1, by go_num, by omega, HX6⟩
              case measure => simp [intOf]; omega
            · go_wp2_with (first | (go_at_call 10; refine (err_any _ _).mono ?_; rintro e w' ⟨rfl, rfl⟩))
              go_roundw
              case rel => exact ⟨p + 1, by go_num, by omega, HX6⟩
              case measure => simp [intOf]; omega
          · obtain rfl : p = j := by omega
            have hdp : decide (p < p) = false := decide_eq_false hlt
            have hdp' : decide ((p : Int) < (p : Int)) = false := decide_eq_false (by omega)
            obtain ⟨c0, _, _, _⟩ := HX.out.fst.pcells
            go_wp2_with fail
            refine (qlist_yes 0 [] _ HX.out.fst.snd rfl).mono ?_
            rw [List.length_nil]
            rintro e w6 ⟨lz, lcz, rfl, _, hK6⟩
            have HX6 := hid (HX.out.keep0 hK6)
            clear c0 hK6 HX
            have HCN := (show Hid (ClearT kd ws' [] 0 ws') from .yes (fun i hi => by simp at hi))
            rcases hor with ⟨rfl, rfl, rfl⟩ | ⟨rfl, rfl, rfl⟩
            all_goals
              go_wp2_with (first | (go_at_call 10; refine (err_any _ _).mono ?_; rintro e w' ⟨rfl, rfl⟩) | (go_at_call 20; refine (pclear none 0 0 [] 0 ws' _ HX6.out (fun _ _ _ => IntsAt.nil _ _) rfl (by omega) HCN.out).mono ?_; rintro e w7 ⟨rfl, hX7⟩) | (go_at_call 15; refine (awake13_any _).mono ?_; rintro e w9 ⟨rfl, hK9⟩))
              go_ret
              exact ⟨rfl, hX7.K.trans hK9⟩
theorem walk (a0 : Int) (odd : Bool) (w0 : (Lit.int .u8 a0).wf = true) (w : World) :
    Calls Try.prog 6 #[.int .u8 a0, .bool odd] w fun e w' => e = .returned (.bool true) ∧ Keep [] w w' := by
  have h0 := bounds_u8 w0
  obtain ⟨n, rfl⟩ := Int.eq_ofNat_of_zero_le h0.1
  exact clears_any n (n % 9) (1 + n % 9) odd w (by omega) (by omega) (by omega) (by omega) (by omega)

end Go.Proofs.Ytamcoejlghfleaa.refClears
