/-
  ClassFull: there are as many classes as may be, and no more; what is told is new.
-/
import Derived.Test.YtfmfnmpibnddmabAwake7
import Derived.Test.YtfmfnmpibnddmabOpens
import Derived.Deep.CutRange
namespace Go.Proofs.Ytfmfnmpibnddmab.classFull
open Go.RowKit

/-- Addresses that rise, below N. -/
def Good (N : Int) (L : List Int) : Prop := ∀ i, i < L.length → okAt N L i
theorem good_snoc {N : Int} {L : List Int} {x : Int} (h : Good N L) (h0 : 0 ≤ x) (h1 : x < N) (hl : 0 < L.length → L[L.length - 1]?.getD 0 < x) : Good N (L ++ [x]) := by
  intro i hi
  simp at hi
  rcases Nat.lt_or_ge i L.length with h2 | h2
  · obtain ⟨a, b, c⟩ := h i h2
    unfold okAt
    rw [List.getElem?_append_left h2, List.getElem?_append_left (by omega)]
    exact ⟨a, b, c⟩
  · obtain rfl : i = L.length := by omega
    unfold okAt
    have e : (L ++ [x])[L.length]?.getD 0 = x := by simp
    rw [e]
    refine ⟨h0, h1, fun hp => ?_⟩
    rw [List.getElem?_append_left (by omega)]
    exact hl hp
theorem good_bd {N : Int} {L : List Int} (h : Good N L) (hN : N ≤ 1023) : ∀ i : Nat, -9223372036854775808 ≤ L[i]?.getD 0 ∧ L[i]?.getD 0 ≤ 9223372036854775807 := by
  intro i
  by_cases hi : i < L.length
  · obtain ⟨a, b, _⟩ := h i hi; omega
  · rw [List.getElem?_eq_none (by omega)]; simp

/-- j times the same class. -/
def reps (j : Nat) (N : Int) (L : List Int) : List (Int × List Int) := List.replicate j (N, L)
theorem reps_length (j : Nat) (N : Int) (L : List Int) : (reps j N L).length = j := List.length_replicate
theorem reps_get (j i : Nat) (N : Int) (L : List Int) (h : i < j) : (reps j N L)[i]? = some (N, L) := by unfold reps; rw [List.getElem?_replicate, if_pos h]
theorem reps_succ (j : Nat) (N : Int) (L : List Int) : reps j N L ++ [(N, L)] = reps (j + 1) N L := by unfold reps; rw [List.replicate_succ']
theorem reps_add (j : Nat) (N : Int) (L : List Int) (h : mayB N L = true) (hj : j < 256) : addN (reps j N L) N L = (j : Int) + 1 ∧ addE (reps j N L) N L = 0 ∧ addR (reps j N L) N L = reps (j + 1) N L := by
  unfold addN addE addR
  rw [reps_length, h, reps_succ]
  simp [hj]
theorem reps_full (N : Int) (L : List Int) (h : mayB N L = true) : addN (reps 256 N L) N L = 0 ∧ addE (reps 256 N L) N L = 3 ∧ addR (reps 256 N L) N L = reps 256 N L := by
  unfold addN addE addR
  rw [reps_length, h]
  exact ⟨rfl, rfl, rfl⟩
theorem reps_low (N : Int) (L : List Int) : addN (reps 256 N L) (-1) [] = 0 ∧ addE (reps 256 N L) (-1) [] = 1 ∧ addR (reps 256 N L) (-1) [] = reps 256 N L := by
  have h : mayB (-1) [] = false := by decide
  unfold addN addE addR
  rw [h]
  exact ⟨rfl, rfl, rfl⟩

theorem lt_of_cellx {w : World} {b o : Nat} {v : Value} (h : w.cell? ⟨b, o, none⟩ = some v) : b < w.heap.size := lt_of_cell2 h
/-- The table with j classes (N, L), beside the list of the addresses. -/
structure Tab (w wr : World) (tb : Nat) (la : Option Addr) (N : Int) (L : List Int) (j : Nat) : Prop where
  F : ∃ F, IsTab wr tb F (reps j N L) ∧ (∀ x, x ∈ F → w.heap.size ≤ x) ∧ ∀ a, la = some a → a.block ∉ F
  I : IntsAt wr la L
  lt : ∀ a, la = some a → a.block < wr.heap.size ∧ w.heap.size ≤ a.block
  K : Keep [] w wr
theorem Tab.keep {S : List Nat} {w wr wr' : World} {tb : Nat} {la : Option Addr} {N : Int} {L : List Int} {j : Nat} (h : Tab w wr tb la N L j) (K : Keep S wr wr') (hS : ∀ k, k ∈ S → wr.heap.size ≤ k) : Tab w wr' tb la N L j := by
  obtain ⟨F, h1, h2, h3⟩ := h.F
  refine ⟨⟨F, h1.keep K (fun k hk e => by have := h1.lt k hk; have := hS k e; omega), h2, h3⟩, h.I.keep K (fun _ a e k => by have := (h.lt a e).1; have := hS _ k; omega), fun a e => ⟨Nat.lt_of_lt_of_le (h.lt a e).1 K.size, (h.lt a e).2⟩, ?_⟩
  exact ((h.K.mono (T := S) (by simp)).trans K).drop (fun k hk hkw => by have := hS k hk; have := h.K.size; omega)

theorem Tab.next {w wr w3 : World} {tb : Nat} {la : Option Addr} {N : Int} {L : List Int} {j j' : Nat} {F : List Nat} (h : Tab w wr tb la N L j) (h2 : ∀ x, x ∈ F → w.heap.size ≤ x) (h3 : ∀ a, la = some a → a.block ∉ F)
    (hT : ∃ F', IsTab w3 tb F' (reps j' N L) ∧ ∀ k, k ∈ F' → k ∈ F ∨ wr.heap.size ≤ k) (K : Keep F wr w3) : Tab w w3 tb la N L j' := by
  obtain ⟨F', hT, hF'⟩ := hT
  have hs := h.K.size
  refine ⟨⟨F', hT, fun x hx => ?_, fun a e hk => ?_⟩, h.I.keep K (fun _ a e => h3 a e), fun a e => ⟨Nat.lt_of_lt_of_le (h.lt a e).1 K.size, (h.lt a e).2⟩, ((h.K.mono (T := F) (by simp)).trans K).drop (fun k hk hkw => by have := h2 k hk; omega)⟩
  · rcases hF' x hx with h1 | h1
    · exact h2 x h1
    · omega
  · rcases hF' _ hk with h1 | h1
    · exact h3 a e h1
    · have := (h.lt a e).1; omega

set_option maxRecDepth 100000 in
set_option maxHeartbeats 8000000 in
theorem full_any (f : Int) (ao : Option Addr) (n cp : Nat) (A : Nat → Nat) (w : World) (hf : 0 ≤ f ∧ f ≤ 255) (hn : n ≤ 9223372036854775807) (hl : U8At w ao n A) :
    Calls Try.prog 6 #[.int .u8 f, .slice ao n cp] w fun e w' => e = .returned (.bool true) ∧ Keep [] w w' := by
  obtain ⟨i0, hi, hz0, hz1, hz2⟩ := info_parts Try.infoIntC
  have hI : Hid (Try.prog.info? 3 = some i0 ∧ i0.zero = some (.int .i64 0) ∧ i0.size = 1 ∧ i0.bytes = 8) := ⟨hi, hz0, hz1, hz2⟩
  clear hi hz0 hz1 hz2
  have HU := (show Hid (U8At w ao n A) from hl)
  clear hl
  obtain ⟨N, hN⟩ : ∃ N : Int, 4 + f = N := ⟨_, rfl⟩
  have hN1 : 4 ≤ N := by omega
  have hN2 : N ≤ 259 := by omega
  go_enter Try.func6, Try.ntmps6
  go_wp2_with fail
  refine (tnew _).mono ?_
  rintro e w1 ⟨tb, rfl, hT, hK1, htb⟩
  have htl : tb < w1.heap.size := hT.lt tb (by simp)
  have HT := (show Hid (IsTab w1 tb [tb] []) from hT)
  clear hT
  go_wp2_with fail
  clear hN hf
  go_loopw [7, 8] (fun v i wr => ∃ (j q : Nat) (L : List Int) (vv : Value), vv = v ∧ i = .int .i64 j ∧ j ≤ n ∧ (j : Int) ≤ N ∧ q ≤ j ∧ Hid (L.length = q) ∧ Hid (Good N L) ∧ Hid (wr.ownsRow w1.heap.size 3 1 v q (ints L)) ∧ Keep [] w1 wr) (fun _ i _ => n - (intOf i).toNat)
  case atStart => exact ⟨0, 0, [], _, rfl, rfl, by omega, by omega, by omega, rfl, fun i h => by simp at h, World.ownsRow_nil _ _ _ _, Keep.refl _ _⟩
  case round =>
    obtain ⟨j, q, L, v, hvv, rfl, hj, hjN, hqj, HL, HG, HO, hK⟩ := hrel
    obtain ⟨w2, rfl⟩ : ∃ w2, w2 = wr := ⟨_, rfl⟩
    subst hvv
    by_cases hgo : j < n ∧ (j : Int) < N
    · obtain ⟨hlt, hltN⟩ := hgo
      obtain ⟨b, off, rfl, hbs, hcell⟩ := HU.out.cells (by omega)
      have hKw := hK1.trans hK
      have hc := (hKw.cell hbs (by simp) (off + j)).trans (hcell j hlt)
      have hA := HU.out.lt j
      generalize A j = x at hc hA
      obtain ⟨y, hy⟩ : ∃ y : Int, (x : Int) % N = y := ⟨_, rfl⟩
      have hy0 : 0 ≤ y := by rw [← hy]; exact Int.emod_nonneg _ (by omega)
      have hy1 : y < N := by rw [← hy]; exact Int.emod_lt_of_pos _ (by omega)
      have hyt : (x : Int).tmod N = y := by rw [Int.tmod_eq_emod_of_nonneg (by omega)]; exact hy
      have hd1 : decide (j < n) = true := decide_eq_true hlt
      have hNne : ¬ N = 0 := by omega
      clear hcell
      obtain ⟨la, lc, rfl, hLq, hIL, hoff, hlc⟩ := own_form HO.out (good_bd HG.out (by omega))
      have hsz3 := hK.size
      by_cases hq0 : q = 0
      · subst hq0
        go_wp2_with (first | (at_builtin; refine append_ints rfl (.tmp 64) (.tmp 66) 29 rfl w1.heap.size 3 i0 Try.underlying29 hI.out _ 0 L [y] rfl (HO.out.alloc _) (some ⟨w2.heap.size, 0, none⟩) 1 1 rfl rfl (IntsAt.single w2 3 y (by omega) (by omega)) (fun e => by cases e) (by omega) (by simp; omega) ?_; intro v' w5 hown5 hgrow; have hK5 : Keep [] w1 w5 := (hK.trans (Keep.alloc [] _ _)).grown hgrow (own_block HO.out)))
        have HG5 := (show Hid (Good N (L ++ [y])) from good_snoc HG.out hy0 hy1 (fun h => by rw [HL.out] at h; omega))
        have HL5 := (show Hid ((L ++ [y]).length = 0 + 1) from by show _ = _; rw [List.length_append, HL.out]; rfl)
        have HO5 := (show Hid (w5.ownsRow w1.heap.size 3 1 v' (0 + 1) (ints (L ++ [y]))) from hown5)
        clear hown5 hgrow
        go_roundw
        case rel => exact ⟨j + 1, 0 + 1, _, _, rfl, by go_num, by omega, by omega, by omega, HL5, HG5, HO5, hK5⟩
        case measure => simp [intOf]; omega
      · obtain ⟨gl, ol, el, hgl, hcl⟩ := hIL.cells (by omega)
        subst el
        obtain ⟨q1, hq1⟩ : ∃ q1, q1 = q - 1 := ⟨_, rfl⟩
        have hc2 := hcl q1 (by omega)
        have hqi : (q : Int) - 1 = q1 := by omega
        have hqe : ((q : Int) == 0) = false := by simp; omega
        have hb2 : (0 : Int) ≤ (q1 : Int) := by omega
        have hb3 : (q1 : Int) < q := by omega
        have HLAST := (show Hid (L[L.length - 1]?.getD 0 = L[q1]?.getD 0) from by show _ = _; rw [HL.out, hq1])
        obtain ⟨z, hz⟩ : ∃ z, L[q1]?.getD 0 = z := ⟨_, rfl⟩
        rw [hz] at hc2 HLAST
        clear hcl hz hq1
        by_cases hyz : z < y
        · have hd2 : decide (z < y) = true := decide_eq_true hyz
          go_wp2_with (first | (at_builtin; refine append_ints rfl (.tmp 64) (.tmp 66) 29 rfl w1.heap.size 3 i0 Try.underlying29 hI.out _ q L [y] rfl (HO.out.alloc _) (some ⟨w2.heap.size, 0, none⟩) 1 1 rfl rfl (IntsAt.single w2 3 y (by omega) (by omega)) (fun e => by cases e) (by omega) (by simp; omega) ?_; intro v' w5 hown5 hgrow; have hK5 : Keep [] w1 w5 := (hK.trans (Keep.alloc [] _ _)).grown hgrow (own_block HO.out)))
          have HG5 := (show Hid (Good N (L ++ [y])) from good_snoc HG.out hy0 hy1 (fun h => by rw [HLAST.out]; exact hyz))
          have HL5 := (show Hid ((L ++ [y]).length = q + 1) from by show _ = _; rw [List.length_append, HL.out]; rfl)
          have HO5 := (show Hid (w5.ownsRow w1.heap.size 3 1 v' (q + 1) (ints (L ++ [y]))) from hown5)
          clear hown5 hgrow
          go_roundw
          case rel => exact ⟨j + 1, q + 1, _, _, rfl, by go_num, by omega, by omega, by omega, HL5, HG5, HO5, hK5⟩
          case measure => simp [intOf]; omega
        · have hd2 : decide (z < y) = false := decide_eq_false hyz
          go_wp2_with fail
          go_roundw
          case rel => exact ⟨j + 1, q, L, _, rfl, by go_num, by omega, by omega, by omega, HL, HG, HO, hK⟩
          case measure => simp [intOf]; omega
    · obtain ⟨la, lc, rfl, hLq, hIL, hoff, hlc⟩ := own_form HO.out (good_bd HG.out (by omega))
      have HM := (show Hid (mayB N L = true) from mayB_yes (by omega) (by omega) HG.out)
      have hKw := hK1.trans hK
      have hs1 := hK1.size
      have HTB := (show Hid (Tab w w2 tb la N L 0) from ⟨⟨[tb], HT.out.keep hK (by simp), (by simp; omega), (fun a e => by have := (hoff a e).1; simp; omega)⟩, hIL, (fun a e => ⟨(hoff a e).2, by have := (hoff a e).1; omega⟩), hKw⟩)
      have HLC := (show Hid (la = none → lc = 0) from hlc)
      have hq259 : q ≤ 259 := by omega
      clear HO HG hIL hoff hlc HT HU hLq
      have hways : (decide (j < n) = false) ∨ (decide (j < n) = true ∧ decide ((j : Int) < N) = false) := by
        by_cases h : j < n
        · exact .inr ⟨decide_eq_true h, decide_eq_false (fun k => hgo ⟨h, k⟩)⟩
        · exact .inl (decide_eq_false h)
      rcases hways with hd1 | ⟨hd1, hd2⟩
      all_goals (go_wp2_with fail)
      all_goals
        clear hd1 hgo hj hjN hqj
        go_loopw [10] (fun i wr => ∃ t : Nat, i = .int .i64 t ∧ t ≤ 256 ∧ Hid (Tab w wr tb la N L t)) (fun i _ => 256 - (intOf i).toNat)
        case atStart => exact ⟨0, rfl, by omega, HTB⟩
        case round =>
          obtain ⟨t, rfl, ht, HTT⟩ := hrel
          obtain ⟨w3, rfl⟩ : ∃ w3, w3 = wr := ⟨_, rfl⟩
          obtain ⟨F, hT, hF1, hF2⟩ := HTT.out.F
          have HTF := (show Hid (IsTab w3 tb F (reps t N L) ∧ (∀ x, x ∈ F → w.heap.size ≤ x) ∧ ∀ a, la = some a → a.block ∉ F) from ⟨hT, hF1, hF2⟩)
          clear hT hF1 hF2
          by_cases hlt : t < 256
          · have EN := (show Hid (addN (reps t N L) N L = (t : Int) + 1 ∧ addE (reps t N L) N L = 0 ∧ addR (reps t N L) N L = reps (t + 1) N L) from reps_add t N L HM.out hlt)
            go_wp2_with (first | (go_at_call 23; refine (tof_any tb F (reps t N L) N la q lc L _ HTF.out.1 HTT.out.I HLC.out HL.out (by omega)).mono ?_; rw [EN.out.1, EN.out.2.1, EN.out.2.2]; rintro e w4 ⟨rfl, hT4, hK4⟩; have HTN := (show Hid (Tab w w4 tb la N L (t + 1)) from HTT.out.next HTF.out.2.1 HTF.out.2.2 hT4 hK4); clear hT4 hK4) | (go_at_call 10; refine (err7 _ _).mono ?_; rintro e w' ⟨rfl, rfl⟩))
            go_roundw
            case rel => exact ⟨t + 1, by go_num, by omega, HTN⟩
            case measure => simp [intOf]; omega
          · obtain rfl : t = 256 := by omega
            have E1 := (show Hid (addN (reps 256 N L) N L = 0 ∧ addE (reps 256 N L) N L = 3 ∧ addR (reps 256 N L) N L = reps 256 N L) from reps_full N L HM.out)
            have E2 := (show Hid (addN (reps 256 N L) (-1) [] = 0 ∧ addE (reps 256 N L) (-1) [] = 1 ∧ addR (reps 256 N L) (-1) [] = reps 256 N L) from reps_low N L)
            go_upto_region 19 with (first | (go_at_call 23; refine (tof_any tb F (reps 256 N L) N la q lc L _ HTF.out.1 HTT.out.I HLC.out HL.out (by omega)).mono ?_; rw [E1.out.1, E1.out.2.1, E1.out.2.2]; rintro e w4 ⟨rfl, hT4, hK4⟩; have HT4 := (show Hid (Tab w w4 tb la N L 256) from HTT.out.next HTF.out.2.1 HTF.out.2.2 hT4 hK4); clear hT4 hK4))
            obtain ⟨F4, hT4, hF41, hF42⟩ := HT4.out.F
            have HF4 := (show Hid (IsTab w4 tb F4 (reps 256 N L) ∧ (∀ x, x ∈ F4 → w.heap.size ≤ x) ∧ ∀ a, la = some a → a.block ∉ F4) from ⟨hT4, hF41, hF42⟩)
            clear hT4 hF41 hF42 HTF HTT HTB
            go_upto_region 20 with (first | (go_at_call 23; refine (tof_any tb F4 (reps 256 N L) (-1) none 0 0 [] _ HF4.out.1 (IntsAt.nil _ _) (fun _ => rfl) rfl (by omega)).mono ?_; rw [E2.out.1, E2.out.2.1, E2.out.2.2]; rintro e w5 ⟨rfl, hT5, hK5⟩; have HT5 := (show Hid (Tab w w5 tb la N L 256) from HT4.out.next HF4.out.2.1 HF4.out.2.2 hT5 hK5); clear hT5 hK5))
            obtain ⟨F5, hT5, hF51, hF52⟩ := HT5.out.F
            have HF5 := (show Hid (IsTab w5 tb F5 (reps 256 N L)) from hT5)
            clear hT5 hF51 hF52 HF4 HT4
            have HGET := (show Hid ((reps 256 N L)[6]? = some (N, L) ∧ (reps 256 N L).length ≤ 1000000) from ⟨reps_get 256 6 N L (by omega), by rw [reps_length]; omega⟩)
            go_upto_region 21 with (first | (go_at_call 20; refine (tclass_at tb 6 F5 (reps 256 N L) N 7 L _ HF5.out HGET.out.1 HGET.out.2 (by omega)).mono ?_; rw [HL.out]; rintro e w6 ⟨lx, lcx, rfl, hG, hK6⟩; have hK6a := hK6.trans (Keep.alloc [] w6 (.cells #[.int .i64 N, .slice lx q lcx] 47)); have hx6 := heap_alloc_new w6 (.cells #[.int .i64 N, .slice lx q lcx] 47)))
            obtain ⟨bc, hbc⟩ : ∃ bc, w6.heap.size = bc := ⟨_, rfl⟩
            rw [hbc] at hx6 ⊢
            have HGX := (show Hid (IntsAt (w6.alloc (.cells #[.int .i64 N, .slice lx q lcx] 47)) lx L ∧ ∀ a, lx = some a → w5.heap.size ≤ a.block ∧ a.block < bc ∧ ∃ arr t, (w6.alloc (.cells #[.int .i64 N, .slice lx q lcx] 47)).heap[a.block]? = some (.cells arr t (0, 0))) from by
              obtain ⟨_, _, e, h1, _, h3⟩ := hG
              cases e
              refine ⟨h1.keep (Keep.alloc [] _ _) (by simp [Off]), fun a e => ⟨(h3 a e).1, by have := (h3 a e).2.1; omega, ?_⟩⟩
              obtain ⟨arr, t, hb⟩ := (h3 a e).2.2
              exact ⟨arr, t, (Keep.alloc [] _ _).blk hb (by simp)⟩)
            clear hG hbc hK6
            generalize w6.alloc (.cells #[.int .i64 N, .slice lx q lcx] 47) = w6a at *
            have HROW := (show Hid (0 < q → ∃ gx ox, lx = some ⟨gx, ox, none⟩ ∧ w5.heap.size ≤ gx ∧ gx < bc ∧ ∃ arr ty, w6a.heap[gx]? = some (.cells arr ty (0, 0)) ∧ ox + q ≤ arr.size) from fun h0 => by
              obtain ⟨gx, ox, e, hb, hc⟩ := HGX.out.1.cells (by rw [HL.out]; exact h0)
              obtain ⟨h1, h2, arr, ty, h3⟩ := HGX.out.2 _ e
              refine ⟨gx, ox, e, h1, h2, arr, ty, h3, ?_⟩
              have h4 := hc (q - 1) (by rw [HL.out]; omega)
              have h5 : w6a.heap[gx]? = some (.cells arr ty (0, 0)) := h3
              simp [World.cell?, h5] at h4
              have := (Array.getElem?_eq_some_iff.1 h4).1
              omega)
            have c1 : w6a.cell? ⟨bc, 1, none⟩ = some (.slice lx q lcx) := by simp [World.cell?, hx6]
            clear HF5 hx6
            go_wp2_with fail
            go_loopw [19] (fun i wr => ∃ t : Nat, i = .int .i64 t ∧ t ≤ q ∧ Hid (Keep (lx.toList.map (·.block)) w6a wr ∧ ∀ gx ox arr ty, lx = some ⟨gx, ox, none⟩ → w6a.heap[gx]? = some (.cells arr ty (0, 0)) → ∃ arr', wr.heap[gx]? = some (.cells arr' ty (0, 0)) ∧ arr'.size = arr.size)) (fun i _ => q - (intOf i).toNat)
            case atStart => exact ⟨0, rfl, by omega, Keep.refl _ _, fun gx ox arr ty _ h => ⟨arr, h, rfl⟩⟩
            case round =>
              obtain ⟨t, rfl, ht3, HR⟩ := hrel
              obtain ⟨w7, rfl⟩ : ∃ w7, w7 = wr := ⟨_, rfl⟩
              have hbcl : bc < w6a.heap.size := lt_of_cellx c1
              have HNE := (show Hid (bc ∉ lx.toList.map (·.block)) from fun e => by
                cases hlx : lx with
                | none => rw [hlx] at e; simp at e
                | some a =>
                  rw [hlx] at e
                  simp at e
                  have := (HGX.out.2 a hlx).2.1
                  omega)
              have c2 := (HR.out.1.cell hbcl HNE.out 1).trans c1
              by_cases hlt3 : t < q
              · obtain ⟨gx, ox, elx, h1, h2, arr, ty, h3, h4⟩ := HROW.out (by omega)
                subst elx
                obtain ⟨arr', h5, h6⟩ := HR.out.2 gx ox arr ty rfl h3
                have hcx : ∃ x, w7.cell? ⟨gx, ox + t, none⟩ = some x := ⟨arr'[ox + t]'(by omega), by simp [World.cell?, h5]⟩
                obtain ⟨x, hcx⟩ := hcx
                have hfx : w7.frozen? ⟨gx, ox + t, none⟩ = false := by simp [World.frozen?, h5]
                have ht0 : (0 : Int) ≤ (t : Int) := by omega
                have ht1 : (t : Int) < q := by omega
                have HR2 := (show Hid (Keep ((some (⟨gx, ox, none⟩ : Addr)).toList.map (·.block)) w6a (w7.setCell ⟨gx, ox + t, none⟩ (.int .i64 (-5))) ∧ ∀ gx' ox' arr ty, (some (⟨gx, ox, none⟩ : Addr)) = some ⟨gx', ox', none⟩ → w6a.heap[gx']? = some (.cells arr ty (0, 0)) → ∃ arr', (w7.setCell ⟨gx, ox + t, none⟩ (.int .i64 (-5))).heap[gx']? = some (.cells arr' ty (0, 0)) ∧ arr'.size = arr.size) from by
                  refine ⟨HR.out.1.trans (Keep.setCell _ _ (by simp)), ?_⟩
                  intro gx' ox' arr2 ty2 e hb
                  cases e
                  obtain ⟨arr3, h7, h8⟩ := HR.out.2 gx ox arr2 ty2 rfl hb
                  exact ⟨_, heap_setCell_same w7 gx (ox + t) arr3 ty2 (.int .i64 (-5)) h7, by simp [h8]⟩)
                clear h3 h4 h5 h6
                go_wp2_with fail
                go_roundw
                case rel => exact ⟨t + 1, by go_num, by omega, HR2⟩
                case measure => simp [intOf]; omega
              · obtain rfl : t = q := by omega
                have HT7 := (show Hid (Tab w w7 tb la N L 256) from HT5.out.keep (S := lx.toList.map (·.block)) ((hK6a.mono (by simp)).trans HR.out.1) (fun k hk => by
                  cases hlx : lx with
                  | none => rw [hlx] at hk; simp at hk
                  | some a =>
                    rw [hlx] at hk
                    simp at hk
                    subst hk
                    exact (HGX.out.2 a hlx).1))
                clear HROW HR HGX HT5 c1 HNE
                obtain ⟨F7, hT7, _, _⟩ := HT7.out.F
                have HF7 := (show Hid (IsTab w7 tb F7 (reps 256 N L)) from hT7)
                clear hT7
                go_upto_region 26 with (first | (go_at_call 20; refine (tclass_at tb 6 F7 (reps 256 N L) N 7 L _ HF7.out HGET.out.1 HGET.out.2 (by omega)).mono ?_; rw [HL.out]; rintro e w8 ⟨ly, lcy, rfl, hG, hK8⟩; have hK8a := hK8.trans (Keep.alloc [] w8 (.cells #[.int .i64 N, .slice ly t lcy] 47)); have hy8 := heap_alloc_new w8 (.cells #[.int .i64 N, .slice ly t lcy] 47)))
                obtain ⟨bd, hbd⟩ : ∃ bd, w8.heap.size = bd := ⟨_, rfl⟩
                rw [hbd] at hy8 ⊢
                have HGY := (show Hid (IntsAt (w8.alloc (.cells #[.int .i64 N, .slice ly t lcy] 47)) ly L) from by
                  obtain ⟨_, _, e, h1, _, _⟩ := hG
                  cases e
                  exact h1.keep (Keep.alloc [] _ _) (by simp [Off]))
                clear hG hbd hK8
                generalize w8.alloc (.cells #[.int .i64 N, .slice ly t lcy] 47) = w8a at *
                have HI8 := (show Hid (IntsAt w8a la L) from HT7.out.I.keep hK8a (by simp [Off]))
                have hKz := HT7.out.K.trans hK8a
                clear HF7 HT7
                go_upto_region 28 with (first | (go_at_call 20; refine (tclass_nil 1 _).mono ?_; rintro e w9 ⟨rfl, hK9⟩; have hK9a := hK9.trans (Keep.alloc [] w9 (.cells #[.int .i64 0, .slice none 0 0] 47))))
                go_upto_region 29 with (first | (go_at_call 18; refine (tadd_nil _ 0 none 0 0 _ rfl).mono ?_; rintro e wA ⟨rfl, hKA⟩; have hKB := hK9a.trans hKA; have hyA := hKB.blk hy8 (by simp); have d0 : wA.cell? ⟨bd, 0, none⟩ = some (.int .i64 N) := (by simp [World.cell?, hyA]); have d1 : wA.cell? ⟨bd, 1, none⟩ = some (.slice ly t lcy) := (by simp [World.cell?, hyA]); have HYA := (show Hid (IntsAt wA ly L ∧ IntsAt wA la L) from ⟨HGY.out.keep hKB (by simp [Off]), HI8.out.keep hKB (by simp [Off])⟩)))
                go_wp2_with (first | (go_at_call 10; refine (err7 _ _).mono ?_; rintro e w' ⟨rfl, rfl⟩) | (go_at_call 21; refine (same_eq ly la t lcy lc L _ HYA.out.1 HYA.out.2 HL.out (by omega)).mono ?_; rintro e wB ⟨rfl, hKC⟩) | (go_at_call 22; refine (tclasses_nil _).mono ?_; rintro e w' ⟨rfl, rfl⟩) | (go_at_call 17; refine (awake7_any _).mono ?_; rintro e wC ⟨rfl, hKD⟩))
                go_ret
                exact ⟨rfl, ((hKz.trans hKB).trans hKC).trans hKD⟩

theorem walk (a0 : Int) (o1 : Option Addr) (len1 cap1 : Nat) (A1 : Nat → Nat) (w0 : (Lit.int .u8 a0).wf = true) (w1 : len1 ≤ 9223372036854775807) (w : World) (u1 : U8At w o1 len1 A1) :
    Calls Try.prog 6 #[.int .u8 a0, .slice o1 len1 cap1] w fun e w' => e = .returned (.bool true) ∧ Keep [] w w' := by
  have := bounds_u8 w0
  exact full_any a0 o1 len1 cap1 A1 w (by omega) w1 u1

end Go.Proofs.Ytfmfnmpibnddmab.classFull
