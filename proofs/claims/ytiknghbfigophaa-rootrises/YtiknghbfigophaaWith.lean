/-
  The document's own merge: a number is put into a rising list.
-/
import Derived.Test.YtiknghbfigophaaRows
import Derived.Test.YtiknghbfigophaaMergeM
import Derived.Test.YtiknghbfigophaaTwin
import Derived.Test.YtiknghbfigophaaLists
import Derived.Deep.RegionLaw
namespace Go.Proofs.Ytiknghbfigophaa
open Go.RowKit

theorem Try.infoIntW : (Try.prog.info? 3).map (fun i => (i.zero, i.size, i.bytes)) = some (some (.int .i64 0), 1, 8) := by kernel_rfl

theorem own_cap {w : World} {base : Nat} {e : TypeId} {b off q c : Nat} {xs : List Value} {v : Value} (h : w.ownsRow base e 1 v q xs) (hv : v = .slice (some ⟨b, off, none⟩) q c) : q ≤ c := by
  rcases h.2 with ⟨h1, _⟩ | ⟨g, cap, cur, h1, _, _, h2, _⟩
  · rw [hv] at h1; cases h1
  · rw [hv] at h1; cases h1; exact h2
/-- The builtin append of integers at a step of a region that draws, whatever is appended: nil, empty, or not. -/
theorem step_append_ints {P : Program} {w : World} {ops : Array Oper} {o : Oper} {a : Act} {K : Act → World → Prop} {Q : Exit → Act → World → Prop} {E : Prop} (hgd : o.guard = none) (s x : Operand) (t : TypeId)
    (ho : o.op = .call { callee := .builtin .append, args := #[s, x], argTypes := #[t, t] })
    (base : Nat) (e : TypeId) (i : TypeInfo) (ht : P.underlying t = some (.slice e)) (hi : P.info? e = some i ∧ i.zero = some (.int .i64 0) ∧ i.size = 1 ∧ i.bytes = 8)
    (v : Value) (n : Nat) (L M : List Int) (hs : a.eval s = v) (hown : w.ownsRow base e 1 v n (ints L)) (xa : Option Addr) (m c : Nat) (hm : M.length = m)
    (hx : a.eval x = .slice xa m c) (hM : IntsAt w xa M) (hc : xa = none → c = 0) (hl : n + m ≤ 1000000) (hbase : base ≤ w.heap.size)
    (h : ∀ v' w', w'.ownsRow base e 1 v' (n + m) (ints (L ++ M)) → w.grownBy w' v.ownBlock → K (a.put o.dst v') w') :
    if Region.wanted o (yielded ops a.tmps) = true then Oper.wp P o a w K Q else E := by
  have hw : Region.wanted o (yielded ops a.tmps) = true := by simp [Region.wanted, hgd]
  rw [if_pos hw]
  obtain ⟨h1, h2, h3, h4⟩ := hi
  cases xa with
  | none =>
    have h0 : M = [] := by
      rcases Nat.eq_zero_or_pos M.length with h0 | h0
      · exact List.length_eq_zero_iff.1 h0
      · obtain ⟨_, _, e, _⟩ := hM.cells h0; cases e
    subst h0
    subst hm
    obtain rfl := hc rfl
    have hrun := run_append_owned_none (P := P) (w := w) base t o.type e i 1 ht h1 v n _ hown
    unfold Oper.wp
    simp [execOp, ho, resolve, invoke, builtin, hs, hx, hrun, Result.andThen]
    exact h v w (by simpa using hown) (grown_refl _ _)
  | some ad =>
    obtain ⟨v', w', hrun, hown', hg, _⟩ := run_append_own (P := P) w base t o.type e i (.int .i64 0) 1 8 ht h1 h2 h3 h4 rfl (by decide) v n _ hown ad m c (ints M) (by rw [ints_length]; omega) (by
      intro j u hu
      have hj : j < M.length := by
        rcases Nat.lt_or_ge j M.length with hj | hj
        · exact hj
        · rw [List.getElem?_eq_none (by rw [ints_length]; exact hj)] at hu; cases hu
      obtain ⟨b, off, e1, _, hcell⟩ := hM.cells (by omega)
      cases e1
      rw [ints_get M j hj] at hu
      rw [Go.WideShapes.add_plain, hcell j hj]; exact hu) (ints_one _) (by unfold maxLen; omega) (by omega) hbase
    unfold Oper.wp
    simp [execOp, ho, resolve, invoke, builtin, hs, hx, hrun, Result.andThen]
    rw [ints_app] at hown'
    exact h v' w' hown' hg

theorem own_emptyB {w : World} {B base : Nat} {e : TypeId} (h : w.heap[B]? = some (.cells #[] e (0, 0))) (hb : base ≤ B) : w.ownsRow base e 1 (.slice (some ⟨B, 0, none⟩) 0 0) 0 (ints []) :=
  ⟨rfl, .inr ⟨B, 0, #[], rfl, hb, h, Nat.le_refl _, Nat.zero_le _, rfl, rfl⟩⟩
theorem IntsAt.oneB {w : World} {B : Nat} {t : TypeId} {x : Int} (h : w.heap[B]? = some (.cells #[.int .i64 x] t (0, 0))) (h1 : -9223372036854775808 ≤ x) (h2 : x ≤ 9223372036854775807) : IntsAt w (some ⟨B, 0, none⟩) [x] := by
  refine ⟨fun _ => ⟨B, 0, rfl, lt_of_block h, fun i hi => ?_⟩, fun i => ?_, fun i => ?_⟩
  · obtain rfl : i = 0 := by simpa using hi
    exact cell_of_one h
  · rcases i with _ | i <;> simp; omega
  · rcases i with _ | i <;> simp; omega

theorem nA (w : World) (o : Obj) : (w.alloc o).drew.heap[w.heap.size]? = some o := heap_alloc_new w o
theorem nB (w : World) (o p : Obj) : ((w.alloc o).alloc p).drew.heap[w.heap.size]? = some o := by
  show ((w.alloc o).alloc p).heap[w.heap.size]? = some o
  rw [Below.heap_alloc _ _ _ (by simp)]; exact heap_alloc_new w o
theorem nC (w : World) (o p : Obj) : ((w.alloc p).alloc o).drew.heap[w.heap.size + 1]? = some o := by
  have := heap_alloc_new (w.alloc p) o
  rw [World.size_alloc] at this
  exact this
theorem IntsAt.grew {w w' : World} {v : Value} {B : Nat} {t : TypeId} {x : Int} (h : w.heap[B]? = some (.cells #[.int .i64 x] t (0, 0))) (hg : w.grownBy w' v.ownBlock) (hne : v.ownBlock ≠ some B) (h1 : -9223372036854775808 ≤ x) (h2 : x ≤ 9223372036854775807) : IntsAt w' (some ⟨B, 0, none⟩) [x] :=
  IntsAt.oneB (by rw [hg.block B (lt_of_block h) (fun e => hne e.symm)]; exact h) h1 h2
theorem IntsAt.take {w : World} {b off : Nat} {L : List Int} (h : IntsAt w (some ⟨b, off, none⟩) L) (k : Nat) : IntsAt w (some ⟨b, off, none⟩) (L.take k) := by
  refine ⟨fun h0 => ?_, fun i => ?_, fun i => ?_⟩
  · rw [List.length_take] at h0
    obtain ⟨b', off', e, hb, hc⟩ := h.cells (by omega)
    cases e
    refine ⟨b, off, rfl, hb, fun i hi => ?_⟩
    rw [List.length_take] at hi
    rw [hc i (by omega), List.getElem?_take, if_pos (by omega)]
  · rw [List.getElem?_take]; split
    · exact h.low i
    · simp
  · rw [List.getElem?_take]; split
    · exact h.high i
    · simp
theorem IntsAt.drop {w : World} {b off : Nat} {L : List Int} (h : IntsAt w (some ⟨b, off, none⟩) L) (k : Nat) : IntsAt w (some ⟨b, off + k, none⟩) (L.drop k) := by
  refine ⟨fun h0 => ?_, fun i => ?_, fun i => ?_⟩
  · rw [List.length_drop] at h0
    obtain ⟨b', off', e, hb, hc⟩ := h.cells (by omega)
    cases e
    refine ⟨b, off + k, rfl, hb, fun i hi => ?_⟩
    rw [List.length_drop] at hi
    rw [List.getElem?_drop, ← hc (k + i) (by omega), Nat.add_assoc]
  · rw [List.getElem?_drop]; exact h.low _
  · rw [List.getElem?_drop]; exact h.high _

set_option maxRecDepth 100000 in
set_option maxHeartbeats 8000000 in
theorem rwith {base q c : Nat} {L : List Int} (la : Option Addr) (x : Int) (w : World) (h : w.ownsRow base 3 1 (.slice la q c) q (ints L)) (hbd : ∀ i : Nat, -9223372036854775808 ≤ L[i]?.getD 0 ∧ L[i]?.getD 0 ≤ 9223372036854775807) (hx : -9223372036854775808 ≤ x ∧ x ≤ 9223372036854775807) (hq : q ≤ 100000) (hb : base ≤ w.heap.size) :
    Calls Try.prog 20 #[.slice la q c, .int .i64 x] w fun e w' => ∃ v' q', e = .returned v' ∧ w'.ownsRow base 3 1 v' q' (ints (withL L x)) ∧ Keep [] w w' := by
  obtain ⟨i0, hi, hz0, hz1, hz2⟩ := info_parts Try.infoIntW
  have hI : Hid (Try.prog.info? 3 = some i0 ∧ i0.zero = some (.int .i64 0) ∧ i0.size = 1 ∧ i0.bytes = 8) := ⟨hi, hz0, hz1, hz2⟩
  clear hi hz0 hz1 hz2
  obtain ⟨hIA, hlen, hfar⟩ := own_at h hbd
  have HIA := (show Hid (IntsAt w la L) from hIA)
  have HLEN := (show Hid (L.length = q) from hlen)
  have HOWN := (show Hid (w.ownsRow base 3 1 (.slice la q c) q (ints L)) from h)
  have HBD := (show Hid (∀ i : Nat, -9223372036854775808 ≤ L[i]?.getD 0 ∧ L[i]?.getD 0 ≤ 9223372036854775807) from hbd)
  obtain ⟨kx, hkx⟩ : ∃ kx, lowN L x = kx := ⟨_, rfl⟩
  have HKX := (show Hid (lowN L x = kx) from hkx)
  have hkq : kx ≤ q := by have := lowN_le L x; omega
  clear h hIA hlen hfar hbd hkx
  go_enter Try.func20, Try.ntmps20
  go_wp2_with fail
  go_loop [5] (fun i => ∃ k : Nat, i = .int .i64 k ∧ k ≤ kx) (fun i => kx - (intOf i).toNat)
  case atStart => exact ⟨0, rfl, by omega⟩
  case round =>
    obtain ⟨k, rfl, hk⟩ := hrel
    by_cases hlt : k < kx
    · have hd : decide ((k : Int) < (q : Int)) = true := by rw [decide_eq_true_iff]; omega
      have hd0 : decide (k < q) = true := by rw [decide_eq_true_iff]; omega
      have hkq2 : k < q := by omega
      obtain ⟨b, off, rfl, hbs, hcell⟩ := HIA.out.cells (by have := HLEN.out; omega)
      have hc := hcell k (by have := HLEN.out; omega)
      have hlow := lowN_yes L x k (by have := HKX.out; omega)
      clear hcell
      generalize L[k]?.getD 0 = y at *
      have hd2 : decide (y < x) = true := by rw [decide_eq_true_iff]; exact hlow
      go_wp2_with fail
      go_round
      case rel => exact ⟨k + 1, by go_num, by omega⟩
      case measure => simp [intOf]; omega
    · obtain rfl : k = kx := by omega
      by_cases hkl : k < q
      · have hd : decide ((k : Int) < (q : Int)) = true := by rw [decide_eq_true_iff]; omega
        have hd0 : decide (k < q) = true := by rw [decide_eq_true_iff]; omega
        obtain ⟨b, off, rfl, hbs, hcell⟩ := HIA.out.cells (by have := HLEN.out; omega)
        have hc := hcell k (by have := HLEN.out; omega)
        have hlow := lowN_no L x (by have := HKX.out; have := HLEN.out; omega)
        rw [HKX.out] at hlow
        have HE := (show Hid (L[k]?.getD 0 = x → withL L x = L) from fun e => by
          unfold withL
          rw [HKX.out, if_pos]
          rw [List.getElem?_eq_getElem (by have := HLEN.out; omega)] at e ⊢
          simpa using e)
        have HNE := (show Hid (L[k]?.getD 0 ≠ x → withL L x = L.take k ++ [x] ++ L.drop k) from fun e => by
          unfold withL
          rw [HKX.out, if_neg]
          intro e2
          apply e
          rw [e2]; rfl)
        clear hcell
        generalize L[k]?.getD 0 = y at *
        have hd2 : decide (y < x) = false := by rw [decide_eq_false_iff_not]; exact hlow
        by_cases hyx : y = x
        · have hd3 : (y == x) = true := by rw [beq_iff_eq]; exact hyx
          have HW := (show Hid (withL L x = L) from HE.out hyx)
          clear HE HNE hyx
          go_wp2_with fail
          go_ret
          exact ⟨_, rfl, ⟨q, by rw [HW.out]; exact HOWN.out⟩, Keep.refl _ _⟩
        · have hd3 : (y == x) = false := by rw [beq_eq_false_iff_ne]; exact hyx
          have HW := (show Hid (withL L x = L.take k ++ [x] ++ L.drop k) from HNE.out hyx)
          clear HE HNE hyx
          go_wp2_with fail
          have hqc : q ≤ c := own_cap HOWN.out rfl
          have hkc : k ≤ c := by omega
          have hck : ¬ c = k := by omega
          have HTK := (show Hid ((L.take k).length = k) from by show _ = _; rw [List.length_take, HLEN.out]; omega)
          have HDK := (show Hid ((L.drop k).length = q - k) from by show _ = _; rw [List.length_drop, HLEN.out])
          have HX := (show Hid (-9223372036854775808 ≤ x ∧ x ≤ 9223372036854775807) from hx)
          go_region_law (first
            | (refine step_append_ints rfl (.tmp 33) (.tmp 36) 22 rfl w.heap.size 3 i0 Try.underlying22 hI.out (.slice (some ⟨_, 0, none⟩) 0 0) 0 [] (L.take k) rfl (own_emptyB (by first | exact nA _ _ | exact nB _ _ _ | exact nC _ _ _) (by omega)) _ k c HTK.out rfl ((HIA.out.take k).keep (S := []) (by first | exact (Keep.alloc [] w _).trans (Keep.drew [] _) | exact ((Keep.alloc [] w _).trans (Keep.alloc [] _ _)).trans (Keep.drew [] _)) (fun _ _ _ => by simp)) (by simp) (by omega) (by first | (simp; done) | (simp; omega)) ?_
               intro v5 w5 hown5 hgrow5
               have hK5 : Keep [] w w5 := (show Keep [] w _ from by first | exact (Keep.alloc [] w _).trans (Keep.drew [] _) | exact ((Keep.alloc [] w _).trans (Keep.alloc [] _ _)).trans (Keep.drew [] _)).grown hgrow5 (fun z e => by simp [Value.ownBlock] at e; omega)
               have HX5 := (show Hid (True ∧ True) from ⟨trivial, trivial⟩)
               first
                 | (have HY5 := (show Hid (IntsAt w5 (some ⟨w.heap.size + 1, 0, none⟩) [x]) from IntsAt.grew (nC _ _ _) hgrow5 (by simp [Value.ownBlock]) HX.out.1 HX.out.2))
                 | (have HY5 := (show Hid (IntsAt w5 (some ⟨w.heap.size, 0, none⟩) [x]) from IntsAt.grew (nB _ _ _) hgrow5 (by simp [Value.ownBlock]) HX.out.1 HX.out.2))
                 | skip
               rw [Nat.zero_add, List.nil_append] at hown5
               have HO5 := (show Hid (w5.ownsRow w.heap.size 3 1 v5 k (ints (L.take k))) from hown5)
               have HK5 := (show Hid (Keep [] w w5) from hK5)
               clear hown5 hgrow5 hK5)
            | (refine step_append_ints rfl (.tmp 37) (.tmp 39) 22 rfl w.heap.size 3 i0 Try.underlying22 hI.out v5 k (L.take k) [x] rfl (by first | exact HO5.out | exact HO5.out.alloc _) _ 1 1 rfl rfl (by first | exact HY5.out | exact IntsAt.oneB (heap_alloc_new _ _) HX.out.1 HX.out.2) (by simp) (by omega) (by have := HK5.out.size; simp; omega) ?_
               intro v6 w6 hown6 hgrow6
               have HK6 := (show Hid (Keep [] w w6) from (show Keep [] w _ from by first | exact HK5.out | exact HK5.out.trans (Keep.alloc [] _ _)).grown hgrow6 (own_block HO5.out))
               have HO6 := (show Hid (w6.ownsRow w.heap.size 3 1 v6 (k + 1) (ints (L.take k ++ [x]))) from hown6)
               clear hown6 hgrow6)
            | (refine step_append_ints rfl (.tmp 40) (.tmp 43) 22 rfl w.heap.size 3 i0 Try.underlying22 hI.out v6 (k + 1) (L.take k ++ [x]) (L.drop k) rfl HO6.out _ (q - k) (c - k) HDK.out rfl ((HIA.out.drop k).keep HK6.out (fun _ _ _ => by simp)) (by simp) (by omega) HK6.out.size ?_
               intro v7 w7 hown7 hgrow7
               have HK7 := (show Hid (Keep [] w w7) from HK6.out.grown hgrow7 (own_block HO6.out))
               have HO7 := (show Hid (w7.ownsRow w.heap.size 3 1 v7 (k + 1 + (q - k)) (ints (L.take k ++ [x] ++ L.drop k))) from hown7)
               clear hown7 hgrow7))
          all_goals (go_wp2_with fail)
          all_goals go_ret
          all_goals first | exact ⟨_, _, rfl, by rw [HW.out]; exact own_base HO7.out hb, HK7.out⟩ | exact ⟨_, rfl, ⟨_, by rw [HW.out]; exact own_base HO7.out hb⟩, HK7.out⟩
      · obtain rfl : k = q := by omega
        have hd : decide ((k : Int) < (k : Int)) = false := by rw [decide_eq_false_iff_not]; omega
        have HD0 := (show Hid (L.drop k = []) from List.drop_of_length_le (by have := HLEN.out; omega))
        have HW := (show Hid (withL L x = L.take k ++ [x] ++ L.drop k) from by
          show withL L x = _
          unfold withL
          rw [HKX.out, if_neg]
          rw [List.getElem?_eq_none (by have := HLEN.out; omega)]; simp)
        cases la with
        | none =>
          have h0 : k = 0 ∧ c = 0 ∧ L = [] := by
            rcases HOWN.out.2 with ⟨h1, h2⟩ | ⟨_, _, _, h1, _⟩
            · cases h1; exact ⟨rfl, rfl, List.length_eq_zero_iff.1 HLEN.out⟩
            · cases h1
          obtain ⟨rfl, rfl, rfl⟩ := h0
          have hd0 : decide ((0 : Int) < 0) = false := by decide
          go_wp2_with fail
          have HX := (show Hid (-9223372036854775808 ≤ x ∧ x ≤ 9223372036854775807) from hx)
          go_region_law (first
            | (refine step_append_ints rfl (.tmp 33) (.tmp 36) 22 rfl w.heap.size 3 i0 Try.underlying22 hI.out (.slice (some ⟨_, 0, none⟩) 0 0) 0 [] [] rfl (own_emptyB (by first | exact nA _ _ | exact nB _ _ _ | exact nC _ _ _) (by omega)) _ 0 0 rfl rfl (IntsAt.nil _ _) (by simp) (by omega) (by first | (simp; done) | (simp; omega)) ?_
               intro v5 w5 hown5 hgrow5
               have hK5 : Keep [] w w5 := (show Keep [] w _ from by first | exact (Keep.alloc [] w _).trans (Keep.drew [] _) | exact ((Keep.alloc [] w _).trans (Keep.alloc [] _ _)).trans (Keep.drew [] _)).grown hgrow5 (fun z e => by simp [Value.ownBlock] at e; omega)
               have HX5 := (show Hid (True ∧ True) from ⟨trivial, trivial⟩)
               first
                 | (have HY5 := (show Hid (IntsAt w5 (some ⟨w.heap.size + 1, 0, none⟩) [x]) from IntsAt.grew (nC _ _ _) hgrow5 (by simp [Value.ownBlock]) HX.out.1 HX.out.2))
                 | (have HY5 := (show Hid (IntsAt w5 (some ⟨w.heap.size, 0, none⟩) [x]) from IntsAt.grew (nB _ _ _) hgrow5 (by simp [Value.ownBlock]) HX.out.1 HX.out.2))
                 | skip
               rw [Nat.zero_add, List.nil_append] at hown5
               have HO5 := (show Hid (w5.ownsRow w.heap.size 3 1 v5 0 (ints [])) from hown5)
               have HK5 := (show Hid (Keep [] w w5) from hK5)
               clear hown5 hgrow5 hK5)
            | (refine step_append_ints rfl (.tmp 37) (.tmp 39) 22 rfl w.heap.size 3 i0 Try.underlying22 hI.out v5 0 [] [x] rfl (by first | exact HO5.out | exact HO5.out.alloc _) _ 1 1 rfl rfl (by first | exact HY5.out | exact IntsAt.oneB (heap_alloc_new _ _) HX.out.1 HX.out.2) (by simp) (by omega) (by have := HK5.out.size; simp; omega) ?_
               intro v6 w6 hown6 hgrow6
               have HK6 := (show Hid (Keep [] w w6) from (show Keep [] w _ from by first | exact HK5.out | exact HK5.out.trans (Keep.alloc [] _ _)).grown hgrow6 (own_block HO5.out))
               have HO6 := (show Hid (w6.ownsRow w.heap.size 3 1 v6 (0 + 1) (ints ([] ++ [x]))) from hown6)
               clear hown6 hgrow6)
            | (refine step_append_ints rfl (.tmp 40) (.tmp 43) 22 rfl w.heap.size 3 i0 Try.underlying22 hI.out v6 (0 + 1) ([] ++ [x]) [] rfl HO6.out _ 0 0 rfl rfl (IntsAt.nil _ _) (by simp) (by omega) HK6.out.size ?_
               intro v7 w7 hown7 hgrow7
               have HK7 := (show Hid (Keep [] w w7) from HK6.out.grown hgrow7 (own_block HO6.out))
               have HO7 := (show Hid (w7.ownsRow w.heap.size 3 1 v7 (0 + 1 + 0) (ints ([] ++ [x] ++ []))) from hown7)
               clear hown7 hgrow7))
          all_goals (go_wp2_with fail)
          all_goals go_ret
          all_goals first | exact ⟨_, _, rfl, by rw [HW.out]; exact own_base HO7.out hb, HK7.out⟩ | exact ⟨_, rfl, ⟨_, by rw [HW.out]; exact own_base HO7.out hb⟩, HK7.out⟩
        | some aa =>
          obtain ⟨b, rfl⟩ : ∃ b, aa = ⟨b, 0, none⟩ := by
            rcases HOWN.out.2 with ⟨h1, h2⟩ | ⟨g, _, _, h1, _⟩
            · cases h1
            · cases h1; exact ⟨g, rfl⟩
          have hkc : k ≤ c := own_cap HOWN.out rfl
          go_wp2_with fail
          have HTK := (show Hid ((L.take k).length = k) from by show _ = _; rw [List.length_take, HLEN.out]; omega)
          have HX := (show Hid (-9223372036854775808 ≤ x ∧ x ≤ 9223372036854775807) from hx)
          go_region_law (first
            | (refine step_append_ints rfl (.tmp 33) (.tmp 36) 22 rfl w.heap.size 3 i0 Try.underlying22 hI.out (.slice (some ⟨_, 0, none⟩) 0 0) 0 [] (L.take k) rfl (own_emptyB (by first | exact nA _ _ | exact nB _ _ _ | exact nC _ _ _) (by omega)) _ k c HTK.out rfl ((HIA.out.take k).keep (S := []) (by first | exact (Keep.alloc [] w _).trans (Keep.drew [] _) | exact ((Keep.alloc [] w _).trans (Keep.alloc [] _ _)).trans (Keep.drew [] _)) (fun _ _ _ => by simp)) (by simp) (by omega) (by first | (simp; done) | (simp; omega)) ?_
               intro v5 w5 hown5 hgrow5
               have hK5 : Keep [] w w5 := (show Keep [] w _ from by first | exact (Keep.alloc [] w _).trans (Keep.drew [] _) | exact ((Keep.alloc [] w _).trans (Keep.alloc [] _ _)).trans (Keep.drew [] _)).grown hgrow5 (fun z e => by simp [Value.ownBlock] at e; omega)
               have HX5 := (show Hid (True ∧ True) from ⟨trivial, trivial⟩)
               first
                 | (have HY5 := (show Hid (IntsAt w5 (some ⟨w.heap.size + 1, 0, none⟩) [x]) from IntsAt.grew (nC _ _ _) hgrow5 (by simp [Value.ownBlock]) HX.out.1 HX.out.2))
                 | (have HY5 := (show Hid (IntsAt w5 (some ⟨w.heap.size, 0, none⟩) [x]) from IntsAt.grew (nB _ _ _) hgrow5 (by simp [Value.ownBlock]) HX.out.1 HX.out.2))
                 | skip
               rw [Nat.zero_add, List.nil_append] at hown5
               have HO5 := (show Hid (w5.ownsRow w.heap.size 3 1 v5 k (ints (L.take k))) from hown5)
               have HK5 := (show Hid (Keep [] w w5) from hK5)
               clear hown5 hgrow5 hK5)
            | (refine step_append_ints rfl (.tmp 37) (.tmp 39) 22 rfl w.heap.size 3 i0 Try.underlying22 hI.out v5 k (L.take k) [x] rfl (by first | exact HO5.out | exact HO5.out.alloc _) _ 1 1 rfl rfl (by first | exact HY5.out | exact IntsAt.oneB (heap_alloc_new _ _) HX.out.1 HX.out.2) (by simp) (by omega) (by have := HK5.out.size; simp; omega) ?_
               intro v6 w6 hown6 hgrow6
               have HK6 := (show Hid (Keep [] w w6) from (show Keep [] w _ from by first | exact HK5.out | exact HK5.out.trans (Keep.alloc [] _ _)).grown hgrow6 (own_block HO5.out))
               have HO6 := (show Hid (w6.ownsRow w.heap.size 3 1 v6 (k + 1) (ints (L.take k ++ [x]))) from hown6)
               clear hown6 hgrow6)
            | (refine step_append_ints rfl (.tmp 40) (.tmp 43) 22 rfl w.heap.size 3 i0 Try.underlying22 hI.out v6 (k + 1) (L.take k ++ [x]) (L.drop k) rfl HO6.out _ 0 (c - k) (by rw [HD0.out]; rfl) rfl (by rw [HD0.out]; exact IntsAt.nil _ _) (by split <;> simp) (by omega) HK6.out.size ?_
               intro v7 w7 hown7 hgrow7
               have HK7 := (show Hid (Keep [] w w7) from HK6.out.grown hgrow7 (own_block HO6.out))
               have HO7 := (show Hid (w7.ownsRow w.heap.size 3 1 v7 (k + 1 + 0) (ints (L.take k ++ [x] ++ L.drop k))) from hown7)
               clear hown7 hgrow7))
          all_goals (go_wp2_with fail)
          all_goals go_ret
          all_goals first | exact ⟨_, _, rfl, by rw [HW.out]; exact own_base HO7.out hb, HK7.out⟩ | exact ⟨_, rfl, ⟨_, by rw [HW.out]; exact own_base HO7.out hb⟩, HK7.out⟩

end Go.Proofs.Ytiknghbfigophaa
