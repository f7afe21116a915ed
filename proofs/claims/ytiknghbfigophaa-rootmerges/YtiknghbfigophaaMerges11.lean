/-
  RootMerges: what is merged has all numbers above 0 of all lists, rising, each once, and no others.
-/
import Derived.Test.YtiknghbfigophaaAwake11
import Derived.Deep.CutRange
namespace Go.Proofs.Ytiknghbfigophaa.rootMerges
open Go.RowKit

theorem lists3 {w : World} {B n1 n2 n3 c1 c2 c3 : Nat} {a1 a2 a3 : Option Addr} {t : TypeId} {X Y Z : List Int} (h : w.heap[B]? = some (.cells #[.slice a1 n1 c1, .slice a2 n2 c2, .slice a3 n3 c3] t (0, 0))) (h1 : IntsAt w a1 X) (h2 : IntsAt w a2 Y) (h3 : IntsAt w a3 Z) (e1 : X.length = n1) (e2 : Y.length = n2) (e3 : Z.length = n3) : ListsAt w (some ⟨B, 0, none⟩) [X, Y, Z] := by
  subst e1; subst e2; subst e3
  refine ListsAt.block (cs := [.slice a1 X.length c1, .slice a2 Y.length c2, .slice a3 Z.length c3]) h (fun i L hi => ?_)
  rcases i with _ | _ | _ | i
  · simp at hi; subst hi; exact ⟨_, c1, rfl, h1⟩
  · simp at hi; subst hi; exact ⟨_, c2, rfl, h2⟩
  · simp at hi; subst hi; exact ⟨_, c3, rfl, h3⟩
  · simp at hi
theorem lists2 {w : World} {B n1 n2 c1 c2 : Nat} {a1 a2 : Option Addr} {t : TypeId} {X Y : List Int} (h : w.heap[B]? = some (.cells #[.slice a1 n1 c1, .slice a2 n2 c2] t (0, 0))) (h1 : IntsAt w a1 X) (h2 : IntsAt w a2 Y) (e1 : X.length = n1) (e2 : Y.length = n2) : ListsAt w (some ⟨B, 0, none⟩) [X, Y] := by
  subst e1; subst e2
  refine ListsAt.block (cs := [.slice a1 X.length c1, .slice a2 Y.length c2]) h (fun i L hi => ?_)
  rcases i with _ | _ | i
  · simp at hi; subst hi; exact ⟨_, c1, rfl, h1⟩
  · simp at hi; subst hi; exact ⟨_, c2, rfl, h2⟩
  · simp at hi
theorem m_abc {A B C M : List Int} (h : mergeL (A ++ (B ++ C)) = M) : mergeL [A, B, C].flatten = M := by rw [← h]; simp
theorem m_cba {A B C M : List Int} (h : mergeL (A ++ (B ++ C)) = M) : mergeL [C, B, A].flatten = M := by
  rw [← h]
  exact mergeL_ext (fun x _ => by simp only [List.flatten_cons, List.flatten_nil, List.append_nil, List.mem_append]; exact ⟨fun h => by rcases h with h | h | h <;> simp [h], fun h => by rcases h with h | h | h <;> simp [h]⟩)
theorem m_ma {A B C M : List Int} (h : mergeL (A ++ (B ++ C)) = M) : mergeL [M, A].flatten = M := by
  subst h
  refine mergeL_is (mergeL_up _) (fun x => ?_)
  rw [mergeL_mem]
  simp only [List.flatten_cons, List.flatten_nil, List.append_nil, List.mem_append, mergeL_mem]
  constructor
  · rintro ⟨h, h0⟩; exact ⟨.inl ⟨h, h0⟩, h0⟩
  · rintro ⟨h | h, h0⟩
    · exact h
    · exact ⟨.inl h, h0⟩

set_option maxRecDepth 100000 in
set_option maxHeartbeats 3200000 in
theorem walk (ao : Option Addr) (n c : Nat) (A : List Int) (bo : Option Addr) (m d : Nat) (B : List Int) (co : Option Addr) (p f : Nat) (C : List Int) (w0 : n ≤ 9223372036854775807) (w1 : m ≤ 9223372036854775807) (w2 : p ≤ 9223372036854775807) (w : World) (u0 : ListAt w ao .i64 n A) (u1 : ListAt w bo .i64 m B) (u2 : ListAt w co .i64 p C) :
    Calls Try.prog 4 #[.slice ao n c, .slice bo m d, .slice co p f] w fun e w' => e = .returned (.bool true) ∧ Keep [] w w' := by
  by_cases hn : n ≤ 60 ∧ m ≤ 60 ∧ p ≤ 60
  · obtain ⟨hn, hm, hp⟩ := hn
    have d1 : decide (60 < (n : Int)) = false := by rw [decide_eq_false_iff_not]; omega
    have d2 : decide (60 < (m : Int)) = false := by rw [decide_eq_false_iff_not]; omega
    have d3 : decide (60 < (p : Int)) = false := by rw [decide_eq_false_iff_not]; omega
    obtain ⟨M, hM⟩ : ∃ M, mergeL (A ++ (B ++ C)) = M := ⟨_, rfl⟩
    have HM := (show Hid (mergeL (A ++ (B ++ C)) = M) from hM)
    obtain ⟨q, hq⟩ : ∃ q, M.length = q := ⟨_, rfl⟩
    have HQ := (show Hid (M.length = q) from hq)
    have hq5 : q ≤ 180 := by
      have h1 := mergeL_le (A ++ (B ++ C))
      rw [hM, hq] at h1
      simp only [List.length_append, u0.len, u1.len, u2.len] at h1
      omega
    have HA := (show Hid (IntsAt w ao A ∧ A.length = n) from ⟨u0.ints, u0.len⟩)
    have HB := (show Hid (IntsAt w bo B ∧ B.length = m) from ⟨u1.ints, u1.len⟩)
    have HC := (show Hid (IntsAt w co C ∧ C.length = p) from ⟨u2.ints, u2.len⟩)
    have HLL := (show Hid (([A, B, C] : List (List Int)).flatten.length ≤ 100000 ∧ ([C, B, A] : List (List Int)).flatten.length ≤ 100000 ∧ ([M, A] : List (List Int)).flatten.length ≤ 100000) from by
      have e0 := u0.len; have e1 := u1.len; have e2 := u2.len
      refine ⟨?_, ?_, ?_⟩ <;> simp <;> omega)
    clear hM hq u0 u1 u2 w0 w1 w2
    go_enter Try.func4, Try.ntmps4
    go_wp2_with fail
    have KA : ∀ w', Keep [] w w' → IntsAt w' ao A ∧ IntsAt w' bo B ∧ IntsAt w' co C := fun w' K => ⟨HA.out.1.keep K (fun _ _ _ => by simp), HB.out.1.keep K (fun _ _ _ => by simp), HC.out.1.keep K (fun _ _ _ => by simp)⟩
    have HKA := (show Hid (∀ w', Keep [] w w' → IntsAt w' ao A ∧ IntsAt w' bo B ∧ IntsAt w' co C) from KA)
    clear KA
    have k1 := Keep.alloc [] w (.cells #[.slice ao n c, .slice bo m d, .slice co p f] 22)
    have b1 := heap_alloc_new w (.cells #[.slice ao n c, .slice bo m d, .slice co p f] 22)
    generalize w.alloc (.cells #[.slice ao n c, .slice bo m d, .slice co p f] 22) = w1 at *
    obtain ⟨i1, i2, i3⟩ := HKA.out w1 k1
    refine (merge_l _ 3 3 q [A, B, C] M w1 (lists3 b1 i1 i2 i3 HA.out.2 HB.out.2 HC.out.2) rfl HLL.out.1 (by omega) (m_abc HM.out) HQ.out).mono ?_
    rintro e w2 ⟨va, vc, rfl, hN, hK⟩
    have HN := (show Hid (NewInts w1 w2 va q vc M) from hN)
    have HK := (show Hid (Keep [] w w2) from k1.trans hK)
    clear k1 b1 i1 i2 i3 hN hK
    go_wp2_with fail
    have k1 := Keep.alloc [] w2 (.cells #[.slice ao n c, .slice bo m d, .slice co p f] 22)
    have b1 := heap_alloc_new w2 (.cells #[.slice ao n c, .slice bo m d, .slice co p f] 22)
    generalize w2.alloc (.cells #[.slice ao n c, .slice bo m d, .slice co p f] 22) = w3 at *
    obtain ⟨i1, i2, i3⟩ := HKA.out w3 (HK.out.trans k1)
    refine (rmerge_l _ 3 3 q [A, B, C] M w3 (lists3 b1 i1 i2 i3 HA.out.2 HB.out.2 HC.out.2) rfl HLL.out.1 (by omega) (m_abc HM.out) HQ.out).mono ?_
    rintro e w4 ⟨vb, vd, rfl, hN4, hK4⟩
    have HN3 := (show Hid (NewInts w1 w4 va q vc M) from HN.out.keep0 (k1.trans hK4))
    have HK3 := (show Hid (Keep [] w w4) from HK.out.trans (k1.trans hK4))
    clear HN HK k1 b1 i1 i2 i3 hK4
    go_wp2_with fail
    refine (same_eq va vb q vc vd M _ HN3.out.at' hN4.at' HQ.out (by omega)).mono ?_
    rintro e w5 ⟨rfl, hK5⟩
    have HN5 := (show Hid (NewInts w1 w5 va q vc M) from HN3.out.keep0 hK5)
    have HK5 := (show Hid (Keep [] w w5) from HK3.out.trans hK5)
    clear HN3 HK3 hN4 hK5
    go_wp2_with fail
    have k1 := Keep.alloc [] w5 (.cells #[.slice va q vc, .slice ao n c] 22)
    have b1 := heap_alloc_new w5 (.cells #[.slice va q vc, .slice ao n c] 22)
    generalize w5.alloc (.cells #[.slice va q vc, .slice ao n c] 22) = w6 at *
    obtain ⟨i1, i2, i3⟩ := HKA.out w6 (HK5.out.trans k1)
    refine (merge_l _ 2 2 q [M, A] M w6 (lists2 b1 (HN5.out.keep0 k1).at' i1 HQ.out HA.out.2) rfl HLL.out.2.2 (by omega) (m_ma HM.out) HQ.out).mono ?_
    rintro e w7 ⟨vb, vd, rfl, hN7, hK7⟩
    have HN7 := (show Hid (NewInts w1 w7 va q vc M) from HN5.out.keep0 (k1.trans hK7))
    have HK7 := (show Hid (Keep [] w w7) from HK5.out.trans (k1.trans hK7))
    clear HN5 HK5 k1 b1 i1 i2 i3 hK7
    go_wp2_with fail
    refine (same_eq vb va q vd vc M _ hN7.at' HN7.out.at' HQ.out (by omega)).mono ?_
    rintro e w8 ⟨rfl, hK8⟩
    have HN8 := (show Hid (NewInts w1 w8 va q vc M) from HN7.out.keep0 hK8)
    have HK8 := (show Hid (Keep [] w w8) from HK7.out.trans hK8)
    clear HN7 HK7 hN7 hK8
    go_wp2_with fail
    have k1 := Keep.alloc [] w8 (.cells #[.slice co p f, .slice bo m d, .slice ao n c] 22)
    have b1 := heap_alloc_new w8 (.cells #[.slice co p f, .slice bo m d, .slice ao n c] 22)
    generalize w8.alloc (.cells #[.slice co p f, .slice bo m d, .slice ao n c] 22) = w9 at *
    obtain ⟨i1, i2, i3⟩ := HKA.out w9 (HK8.out.trans k1)
    refine (merge_l _ 3 3 q [C, B, A] M w9 (lists3 b1 i3 i2 i1 HC.out.2 HB.out.2 HA.out.2) rfl HLL.out.2.1 (by omega) (m_cba HM.out) HQ.out).mono ?_
    rintro e w10 ⟨vb, vd, rfl, hN10, hK10⟩
    have HN10 := (show Hid (NewInts w1 w10 va q vc M) from HN8.out.keep0 (k1.trans hK10))
    have HK10 := (show Hid (Keep [] w w10) from HK8.out.trans (k1.trans hK10))
    clear HN8 HK8 k1 b1 i1 i2 i3 hK10
    go_wp2_with fail
    refine (same_eq vb va q vd vc M _ hN10.at' HN10.out.at' HQ.out (by omega)).mono ?_
    rintro e w11 ⟨rfl, hK11⟩
    have HK11 := (show Hid (Keep [] w w11) from HK10.out.trans hK11)
    clear HN10 HK10 hN10 hK11
    go_wp2_with fail
    refine (merge_l none 0 0 0 [] [] _ (ListsAt.nil _ _) rfl (by simp) (by omega) (by simp [mergeL, posL, sortL]; rfl) rfl).mono ?_
    rintro e w12 ⟨vb, vd, rfl, hN12, hK12⟩
    go_wp2_with (go_at_call 13; refine (awake11_any _).mono ?_; rintro e w13 ⟨rfl, hK13⟩)
    go_ret
    exact ⟨rfl, (HK11.out.trans hK12).trans hK13⟩
  · have hno := hn
    clear u0 u1 u2
    by_cases h1 : 60 < n
    · have d1 : decide (60 < (n : Int)) = true := by rw [decide_eq_true_iff]; omega
      clear hn hno
      go_enter Try.func4, Try.ntmps4
      go_wp2_with (go_at_call 13; refine (awake11_any _).mono ?_; rintro e w13 ⟨rfl, hK13⟩)
      go_ret
      exact ⟨rfl, hK13⟩
    · have d1 : decide (60 < (n : Int)) = false := by rw [decide_eq_false_iff_not]; omega
      by_cases h2 : 60 < m
      · have d2 : decide (60 < (m : Int)) = true := by rw [decide_eq_true_iff]; omega
        clear hn hno
        go_enter Try.func4, Try.ntmps4
        go_wp2_with (go_at_call 13; refine (awake11_any _).mono ?_; rintro e w13 ⟨rfl, hK13⟩)
        go_ret
        exact ⟨rfl, hK13⟩
      · have d2 : decide (60 < (m : Int)) = false := by rw [decide_eq_false_iff_not]; omega
        have d3 : decide (60 < (p : Int)) = true := by rw [decide_eq_true_iff]; omega
        clear hn hno
        go_enter Try.func4, Try.ntmps4
        go_wp2_with (go_at_call 13; refine (awake11_any _).mono ?_; rintro e w13 ⟨rfl, hK13⟩)
        go_ret
        exact ⟨rfl, hK13⟩

end Go.Proofs.Ytiknghbfigophaa.rootMerges
