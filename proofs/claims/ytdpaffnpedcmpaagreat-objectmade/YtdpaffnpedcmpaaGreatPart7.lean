/-
  Contracts of what the statement calls, one text behind the other (Awake9, RHeapAdd, ObjSame, Twin, RHeapObjs, Duo9, Runs9).
-/
import Derived.Test.YtdpaffnpedcmpaaGreatPart6
import Derived.Test.YtdpaffnpedcmpaaGreatPart2
import Derived.Deep.AppendLies
import Derived.Deep.CutRange
import Derived.Deep.CutBlock

/-
  Whole and awake of gloaminglaw9.
-/
namespace Go.Proofs.YtdpaffnpedcmpaaGreat
open Go.RowKit

section
variable {w0 : World} {F0 : List Nat} {hb : Nat} {ws : List Int} {kd : List PK} {ds : List (Int × List Int)}
set_option maxRecDepth 100000 in
set_option maxHeartbeats 1600000 in
theorem owhole (w : World) (h : Has w0 F0 (heapA hb ws kd ds) w) :
    Calls Tryz.prog 9 #[.pointer (some ⟨hb, 0, none⟩)] w fun e w' => e = .returned (.bool true) ∧ w = w' := by
  obtain ⟨sb, tb, hr⟩ := h.raw
  obtain ⟨c0, c1, ⟨ab, ag, c2, _⟩, ⟨pb, c3⟩, _⟩ := hr.cells
  clear h hr
  go_enter Tryz.func9, Tryz.ntmps9
  go_wp2_with fail
  go_ret
  exact ⟨rfl, rfl⟩
end

theorem Fine.add {ws : List Int} {kd : List PK} {ds : List (Int × List Int)} (h : Fine ws kd ds) (f : Int) (L : List Int) : Fine ws kd (addR ds f L) := by
  unfold addR
  split
  · rename_i e
    simp at e
    exact ⟨h.wf, h.ob.add _, by simp; omega, h.len⟩
  · exact h

section
variable {w0 : World} {F0 : List Nat} {hb : Nat} {ws : List Int} {kd : List PK} {ds : List (Int × List Int)}
theorem Has.ptrs {w : World} (h : Has w0 F0 (heapA hb ws kd ds) w) : ∃ sb tb, w.cell? ⟨hb, 0, none⟩ = some (.pointer (some ⟨sb, 0, none⟩)) ∧ w.cell? ⟨hb, 1, none⟩ = some (.pointer (some ⟨tb, 0, none⟩)) := by
  obtain ⟨sb, tb, hr⟩ := h.raw
  exact ⟨sb, tb, hr.cells.1, hr.cells.2.1⟩
theorem ptr_eq {a b : Nat} (e : some (Value.pointer (some ⟨a, 0, none⟩)) = some (.pointer (some ⟨b, 0, none⟩))) : a = b := by
  injection e with e; injection e with e; injection e with e; injection e
theorem ofind (sb : Nat) (a : Int) (w : World) (h : Has w0 F0 (heapA hb ws kd ds) w) (ht : w.cell? ⟨hb, 0, none⟩ = some (.pointer (some ⟨sb, 0, none⟩))) :
    Calls Tryz.prog 53 #[.pointer (some ⟨sb, 0, none⟩), .int .i64 a] w fun e w' => e = .returned (foundV (findI kd a)) ∧ Keep [] w w' := by
  obtain ⟨sb', tb, hr⟩ := h.raw
  have e := hr.cells.1
  rw [ht] at e
  obtain rfl := ptr_eq e
  exact xfind w a hr h.fine.wf
theorem oused (sb : Nat) (w : World) (h : Has w0 F0 (heapA hb ws kd ds) w) (ht : w.cell? ⟨hb, 0, none⟩ = some (.pointer (some ⟨sb, 0, none⟩))) :
    Calls Tryz.prog 33 #[.pointer (some ⟨sb, 0, none⟩)] w fun e w' => e = .returned (.int .i64 (usedK kd)) ∧ Keep [] w w' := by
  obtain ⟨sb', tb, hr⟩ := h.raw
  have e := hr.cells.1
  rw [ht] at e
  obtain rfl := ptr_eq e
  exact xused w hr h.fine.wf
theorem ofree (sb : Nat) (a E : Int) (kd' : List PK) (w : World) (h : Has w0 F0 (heapA hb ws kd ds) w) (ht : w.cell? ⟨hb, 0, none⟩ = some (.pointer (some ⟨sb, 0, none⟩))) (hr : FreeT kd a E kd') :
    Calls Tryz.prog 22 #[.pointer (some ⟨sb, 0, none⟩), .int .i64 a] w fun e w' => e = .returned (.int .i64 E) ∧ Has w0 F0 (heapA hb ws kd' ds) w' := by
  obtain ⟨sb', tb, hx⟩ := h.raw
  have e := hx.cells.1
  rw [ht] at e
  obtain rfl := ptr_eq e
  refine (xfree w a E kd' hx h.fine.wf hr).mono ?_
  rintro e w' ⟨rfl, hX⟩
  exact ⟨rfl, hX.heap (hr.fine h.fine)⟩
end

theorem awake_each : (eachK ((freshK 2).set 1 (.small 0 ((offs (roomOf 0)).set 0 true)))).length = 1 := by decide +kernel
theorem block2 : blockI 2 = (2 : Nat) := by decide
set_option maxHeartbeats 1600000 in
theorem awake9_any (w : World) :
    Calls Tryz.prog 5 #[] w fun e w' => e = .returned (.bool true) ∧ Keep [] w w' := by
  have hA : AllocR (freshK 2) (1 + 1) (some (64, (freshK 2).set 1 (.small 0 ((offs (roomOf 0)).set 0 true)))) := fresh_small 2 0 2 (by omega) rfl
  have HT := (show Hid (MakeT (freshK 2) (zeros (64 * 2)) [] 3 0 1 false 64 0 ((fill0 (zeros (64 * 2)) 64 2).set 64 (putH 3 0 1 false)) ((freshK 2).set 1 (.small 0 ((offs (roomOf 0)).set 0 true)))) from .yes 64 2 _ (may_data 1 (by omega) (by omega)) rfl (.other (by omega)) hA block2)
  have HE := (show Hid ((eachK ((freshK 2).set 1 (.small 0 ((offs (roomOf 0)).set 0 true)))).length = 1) from awake_each)
  generalize (freshK 2).set 1 (.small 0 ((offs (roomOf 0)).set 0 true)) = kd at *
  generalize (fill0 (zeros (64 * 2)) 64 2).set 64 (putH 3 0 1 false) = ws at *
  clear hA
  go_enter Tryz.func5, Tryz.ntmps5
  go_wp2_with (first | (go_at_call 8; refine (onew_has 2 _ (by omega) (by omega)).mono ?_; rintro e w1 ⟨hb, rfl, hH⟩; have HH := (show Hid (Has w [] (heapA hb (zeros (64 * 2)) (freshK 2) []) w1) from hH); clear hH) | (go_at_call 9; refine (owhole _ HH.out).mono ?_; rintro e w' ⟨rfl, rfl⟩) | (go_at_call 10; refine (err_any _ _).mono ?_; rintro e w' ⟨rfl, rfl⟩) | (go_at_call 11; refine (omake 3 0 1 64 0 false ws kd _ HH.out HT.out).mono ?_; rintro e w2 ⟨rfl, hH2⟩; have HH2 := (show Hid (Has w [] (heapA hb ws kd []) w2) from hH2); clear hH2) | (go_at_call 12; refine (oobjects _ HH2.out).mono ?_; rw [HE.out]; rintro e w3 ⟨va, vc, vs, rfl, _, _, hK3⟩))
  go_ret
  exact ⟨rfl, HH2.out.K.trans hK3⟩

end Go.Proofs.YtdpaffnpedcmpaaGreat

/-
  The document's own heap: Add.
-/
namespace Go.Proofs.YtdpaffnpedcmpaaGreat
open Go.RowKit

/-- append onto a row of one's own that is empty, at a step of a region that draws: whatever is appended. -/
theorem step_append_own0 {P : Program} {w : World} {ops : Array Oper} {o : Oper} {a : Act} {K : Act → World → Prop} {Q : Exit → Act → World → Prop} {E : Prop} (hgd : o.guard = none) (s x : Operand) (t : TypeId)
    (ho : o.op = .call { callee := .builtin .append, args := #[s, x], argTypes := #[t, t] })
    (base : Nat) (e : TypeId) (i : TypeInfo) (ht : P.underlying t = some (.slice e)) (hi : P.info? e = some i ∧ i.zero = some (.int .i64 0) ∧ i.size = 1 ∧ i.bytes = 8)
    (L : List Int) (g : Nat) (hs : a.eval s = .slice (some ⟨g, 0, none⟩) 0 0) (hown : w.ownsRow base e 1 (.slice (some ⟨g, 0, none⟩) 0 0) 0 (ints [])) (hbase : base ≤ w.heap.size) (xa : Option Addr) (m c : Nat) (hm : L.length = m)
    (hx : a.eval x = .slice xa m c) (hM : IntsAt w xa L) (hc : xa = none → c = 0) (hl : m ≤ 1000000)
    (h : ∀ la lc w', IntsAt w' la L → (la = none → lc = 0) → (∀ a, la = some a → base ≤ a.block ∧ a.block < w'.heap.size) → w.grownBy w' (some g) → K (a.put o.dst (.slice la m lc)) w') :
    if Region.wanted o (yielded ops a.tmps) = true then Oper.wp P o a w K Q else E := by
  have hw : Region.wanted o (yielded ops a.tmps) = true := by simp [Region.wanted, hgd]
  rw [if_pos hw]
  obtain ⟨h1, h2, h3, h4⟩ := hi
  subst hm
  cases xa with
  | none =>
    have h0 : L = [] := by
      rcases Nat.eq_zero_or_pos L.length with h0 | h0
      · exact List.length_eq_zero_iff.1 h0
      · obtain ⟨_, _, e, _⟩ := hM.cells h0; cases e
    subst h0
    obtain rfl := hc rfl
    have hrun := run_append_owned_none (P := P) (w := w) base t o.type e i 1 ht h1 (.slice (some ⟨g, 0, none⟩) 0 0) 0 _ hown
    unfold Oper.wp
    simp at hx
    simp [execOp, ho, resolve, invoke, builtin, hs, hx, hrun, Result.andThen]
    refine h _ _ _ (IntsAt.nil _ _) (by simp) (fun a e => ?_) (grown_refl _ _)
    cases e
    rcases own_ints hown (by simp) with ⟨e, _⟩ | ⟨g', cap, e1, _, e2, e3, _⟩
    · cases e
    · cases e1; exact ⟨e2, e3⟩
  | some ad =>
    refine wp_append_own w s x t ho base e i (.int .i64 0) 1 8 ht h1 h2 h3 h4 rfl (by decide) _ 0 _ hs hown ad L.length c (ints L) hx (by rw [ints_length]; omega) ?_ (ints_one _) (by unfold maxLen; omega) (by omega) hbase ?_
    · intro j u hu
      have hj : j < L.length := by
        rcases Nat.lt_or_ge j L.length with hj | hj
        · exact hj
        · rw [List.getElem?_eq_none (by rw [ints_length]; exact hj)] at hu; cases hu
      obtain ⟨b, off, e1, _, hcell⟩ := hM.cells (by omega)
      cases e1
      rw [ints_get L j hj] at hu
      rw [Go.WideShapes.add_plain, hcell j hj]; exact hu
    · intro v' w' hown' hg _
      rw [show ints ([] : List Int) = [] from rfl, List.nil_append, Nat.zero_add] at hown'
      obtain ⟨la, lc, rfl, _, hI, hb, hn⟩ := own_form hown' (fun i => ⟨hM.low i, hM.high i⟩)
      exact h la lc w' hI hn hb hg

set_option maxRecDepth 100000 in
set_option maxHeartbeats 800000 in
theorem radd_arg (hb : Nat) (f : Int) (ao : Option Addr) (n c : Nat) (L : List Int) (w : World) (hA : IntsAt w ao L) (hn : L.length = n) (hbd : n ≤ 1000000) (hm : mayB f L = false) :
    Calls Tryz.prog 17 #[.pointer (some ⟨hb, 0, none⟩), .agg #[.int .i64 f, .slice ao n c]] w fun e w' => e = .returned (.agg #[.int .i64 0, .int .i64 1]) ∧ Keep [] w w' := by
  have hK := (Keep.alloc [] w (.cells #[.int .i64 f, .slice ao n c] 25)).trans (Keep.alloc [] _ (.cells #[.int .i64 0, .int .i64 0] 50))
  have hx := (Keep.alloc [] (w.alloc (.cells #[.int .i64 f, .slice ao n c] 25)) (.cells #[.int .i64 0, .int .i64 0] 50)).blk (heap_alloc_new w (.cells #[.int .i64 f, .slice ao n c] 25)) (by simp)
  have hy := second_block w (.cells #[.int .i64 f, .slice ao n c] 25) #[.int .i64 0, .int .i64 0] 50
  have HN := (show Hid (L.length = n) from hn)
  have HM := (show Hid (mayB f L = false) from hm)
  have HA := (show Hid (IntsAt w ao L) from hA)
  clear hA hn hm
  go_enter Tryz.func17, Tryz.ntmps17
  go_upto_region 1 with fail
  generalize (w.alloc (.cells #[.int .i64 f, .slice ao n c] 25)).alloc (.cells #[.int .i64 0, .int .i64 0] 50) = w2 at *
  obtain ⟨bz, hbz⟩ : ∃ bz, w.heap.size + 1 = bz := ⟨_, rfl⟩
  have HBZ := (show Hid (w.heap.size + 1 = bz) from hbz)
  rw [hbz] at hy ⊢
  clear hbz
  obtain ⟨p0, p1⟩ := two_cells hx
  go_wp2_with (first | (go_at_call 50; refine (rmay_any f ao n c L _ (HA.out.keep hK (by simp [Off])) HN.out hbd).mono ?_; rw [HM.out]; rintro e w3 ⟨rfl, hK3⟩; have hy3 := hK3.blk hy (by simp); obtain ⟨d0, d1⟩ := two_cells hy3; obtain ⟨f0, f1⟩ := two_free hy3))
  obtain ⟨z, hk4⟩ := two_put hy3 (.int .i64 0) (.int .i64 1)
  refine bodyPost_ret (results_cell_row rfl _ _ bz 50 #[.int .i64 0, .int .i64 1] (0, 0) _ rfl z Tryz.underlying50 rfl (by kernel_rfl)) rfl ?_
  exact ⟨rfl, (((hK.trans hK3).mono (T := [bz]) (by simp)).trans hk4).drop (by have := HBZ.out; simp; omega)⟩
set_option maxRecDepth 100000 in
set_option maxHeartbeats 800000 in
theorem radd_full (hb mb : Nat) (F : List Nat) (ds : List (Int × List Int)) (f : Int) (ao : Option Addr) (n c : Nat) (L : List Int) (w : World) (h : IsRTab w hb mb F ds) (hA : IntsAt w ao L) (hn : L.length = n) (hbd : n ≤ 1000000) (hm : mayB f L = true) (hf : 256 ≤ ds.length) :
    Calls Tryz.prog 17 #[.pointer (some ⟨hb, 0, none⟩), .agg #[.int .i64 f, .slice ao n c]] w fun e w' => e = .returned (.agg #[.int .i64 0, .int .i64 3]) ∧ Keep [] w w' := by
  have hK := (Keep.alloc [] w (.cells #[.int .i64 f, .slice ao n c] 25)).trans (Keep.alloc [] _ (.cells #[.int .i64 0, .int .i64 0] 50))
  have hx := (Keep.alloc [] (w.alloc (.cells #[.int .i64 f, .slice ao n c] 25)) (.cells #[.int .i64 0, .int .i64 0] 50)).blk (heap_alloc_new w (.cells #[.int .i64 f, .slice ao n c] 25)) (by simp)
  have hy := second_block w (.cells #[.int .i64 f, .slice ao n c] 25) #[.int .i64 0, .int .i64 0] 50
  have HN := (show Hid (L.length = n) from hn)
  have HM := (show Hid (mayB f L = true) from hm)
  have HA := (show Hid (IntsAt w ao L) from hA)
  have HT := (show Hid (IsRTab w hb mb F ds) from h)
  clear hA hn hm h
  go_enter Tryz.func17, Tryz.ntmps17
  go_upto_region 1 with fail
  generalize (w.alloc (.cells #[.int .i64 f, .slice ao n c] 25)).alloc (.cells #[.int .i64 0, .int .i64 0] 50) = w2 at *
  obtain ⟨bz, hbz⟩ : ∃ bz, w.heap.size + 1 = bz := ⟨_, rfl⟩
  have HBZ := (show Hid (w.heap.size + 1 = bz) from hbz)
  rw [hbz] at hy ⊢
  clear hbz
  obtain ⟨p0, p1⟩ := two_cells hx
  go_wp2_with (first | (go_at_call 50; refine (rmay_any f ao n c L _ (HA.out.keep hK (by simp [Off])) HN.out hbd).mono ?_; rw [HM.out]; rintro e w3 ⟨rfl, hK3⟩; have hy3 := hK3.blk hy (by simp); obtain ⟨d0, d1⟩ := two_cells hy3; obtain ⟨f0, f1⟩ := two_free hy3; obtain ⟨va, vc, cs, h1, e1⟩ := HT.out.keep (hK.trans hK3) (by simp); have hcell := h1.cell; have hlen : cs.length = ds.length := (by rw [e1, List.length_map]); rw [hlen] at hcell; generalize ds.length = dl at hcell hf; clear h1 e1 hlen))
  obtain ⟨z, hk4⟩ := two_put hy3 (.int .i64 0) (.int .i64 3)
  refine bodyPost_ret (results_cell_row rfl _ _ bz 50 #[.int .i64 0, .int .i64 3] (0, 0) _ rfl z Tryz.underlying50 rfl (by kernel_rfl)) rfl ?_
  exact ⟨rfl, (((hK.trans hK3).mono (T := [bz]) (by simp)).trans hk4).drop (by have := HBZ.out; simp; omega)⟩
theorem RTabAt.far4 {F : List Nat} {w w4 : World} {tb mb vc : Nat} {va : Option Addr} {cs : List CV} {o : Obj} (h : RTabAt w tb mb va vc F cs) (hg : (w.alloc o).grownBy w4 (Value.slice va cs.length vc).ownBlock) :
    w4.cell? ⟨tb, 1, none⟩ = some (.slice va cs.length vc) ∧ w4.frozen? ⟨tb, 1, none⟩ = false := by
  have htb := h.lt _ h.tF
  have e : w4.heap[tb]? = some (.cells #[.pointer (some ⟨mb, 0, none⟩), .slice va cs.length vc] 65 (0, 0)) := by
    rw [← h.head]
    refine (hg.block tb (by simp; omega) (fun e => ?_)).trans (Below.heap_alloc _ _ _ htb)
    cases va with
    | none => simp [Value.ownBlock] at e
    | some a => simp [Value.ownBlock] at e; exact (h.vF a rfl).2 e.symm
  exact ⟨by simp [World.cell?, e], by simp [World.frozen?, e]⟩

set_option maxRecDepth 100000 in
set_option maxHeartbeats 3200000 in
theorem radd_yes (hb mb : Nat) (F : List Nat) (ds : List (Int × List Int)) (f : Int) (ao : Option Addr) (n c : Nat) (L : List Int) (w : World) (h : IsRTab w hb mb F ds) (hA : IntsAt w ao L) (hc : ao = none → c = 0) (hn : L.length = n) (hbd : n ≤ 1000000) (hm : mayB f L = true) (hf : ds.length < 256) :
    Calls Tryz.prog 17 #[.pointer (some ⟨hb, 0, none⟩), .agg #[.int .i64 f, .slice ao n c]] w fun e w' => e = .returned (.agg #[.int .i64 ((ds.length : Int) + 1), .int .i64 0]) ∧ (∃ F', IsRTab w' hb mb F' (ds ++ [(f, L)]) ∧ ∀ k, k ∈ F' → k ∈ F ∨ w.heap.size ≤ k) ∧ Keep F w w' := by
  obtain ⟨i0, hi, hz0, hz1, hz2⟩ := info_parts Tryz.infoClass
  have hI : Hid (Tryz.prog.info? 25 = some i0 ∧ i0.zero = some (.agg #[.int .i64 0, .slice none 0 0]) ∧ i0.size = 2 ∧ i0.bytes = 32) := ⟨hi, hz0, hz1, hz2⟩
  clear hi hz0 hz1 hz2
  obtain ⟨j0, hi, hz0, hz1, hz2⟩ := info_parts Tryz.infoIntC
  have hJ : Hid (Tryz.prog.info? 3 = some j0 ∧ j0.zero = some (.int .i64 0) ∧ j0.size = 1 ∧ j0.bytes = 8) := ⟨hi, hz0, hz1, hz2⟩
  clear hi hz0 hz1 hz2
  have hK := (Keep.alloc [] w (.cells #[.int .i64 f, .slice ao n c] 25)).trans (Keep.alloc [] _ (.cells #[.int .i64 0, .int .i64 0] 50))
  have hx := (Keep.alloc [] (w.alloc (.cells #[.int .i64 f, .slice ao n c] 25)) (.cells #[.int .i64 0, .int .i64 0] 50)).blk (heap_alloc_new w (.cells #[.int .i64 f, .slice ao n c] 25)) (by simp)
  have hy := second_block w (.cells #[.int .i64 f, .slice ao n c] 25) #[.int .i64 0, .int .i64 0] 50
  have HN := (show Hid (L.length = n) from hn)
  have HM := (show Hid (mayB f L = true) from hm)
  have HA := (show Hid (IntsAt w ao L) from hA)
  have HT := (show Hid (IsRTab w hb mb F ds) from h)
  have HC := (show Hid (ao = none → c = 0) from hc)
  have HB := (show Hid (∀ k, k ∈ F → k < w.heap.size) from h.lt)
  clear hA hn hm h hc
  go_enter Tryz.func17, Tryz.ntmps17
  go_upto_region 1 with fail
  generalize (w.alloc (.cells #[.int .i64 f, .slice ao n c] 25)).alloc (.cells #[.int .i64 0, .int .i64 0] 50) = w2 at *
  obtain ⟨bz, hbz⟩ : ∃ bz, w.heap.size + 1 = bz := ⟨_, rfl⟩
  obtain ⟨bx, hbx⟩ : ∃ bx, w.heap.size = bx := ⟨_, rfl⟩
  have HBZ := (show Hid (w.heap.size + 1 = bz ∧ w.heap.size = bx) from ⟨hbz, hbx⟩)
  rw [hbz] at hy ⊢
  rw [hbx] at hx ⊢
  clear hbz hbx
  obtain ⟨p0, p1⟩ := two_cells hx
  go_upto_region 5 with (first | (go_at_call 50; refine (rmay_any f ao n c L _ (HA.out.keep hK (by simp [Off])) HN.out hbd).mono ?_; rw [HM.out]; rintro e w1 ⟨rfl, hK1⟩; obtain ⟨va, vc, cs, h1, e1⟩ := HT.out.keep (hK.trans hK1) (by simp); have hcell := h1.cell; have hlen : cs.length = ds.length := (by rw [e1, List.length_map]); have HLN := (show Hid (cs.length = ds.length) from hlen); rw [hlen] at hcell; have HTA := (show Hid (RTabAt w1 hb mb va vc F cs) from h1); have HE := (show Hid (ds = cs.map CV.d) from e1); clear h1 e1 hlen))
  have hKw := hK.trans hK1
  have hx1 := hK1.blk hx (by simp)
  have hy1 := hK1.blk hy (by simp)
  have hKE := (Keep.alloc [] w1 (.cells #[] 3)).trans (Keep.drew [] _)
  have HAE := (show Hid (IntsAt ((w1.alloc (.cells #[] 3)).drew) ao L) from HA.out.keep (hKw.trans hKE) (by simp [Off]))
  obtain ⟨c0, c1⟩ := two_cells hx1
  obtain ⟨e0, e1⟩ := two_cells (hKE.blk hx1 (by simp))
  obtain ⟨dl, hdl⟩ : ∃ dl, ds.length = dl := ⟨_, rfl⟩
  rw [hdl] at hf hcell ⊢
  have HDL := (show Hid (cs.length = dl) from by show _ = _; rw [HLN.out]; exact hdl)
  have hcellE := (hKE.cell (lt_of_cell2 hcell) (by simp) 1).trans hcell
  have HOE := (show Hid (((w1.alloc (.cells #[] 3)).drew).ownsRow w1.heap.size 3 1 (.slice (some ⟨w1.heap.size, 0, none⟩) 0 0) 0 (ints [])) from own_empty w1 3)
  have HB1 := (show Hid (∀ k, k ∈ F → k < w1.heap.size) from fun k hk => Nat.lt_of_lt_of_le (HB.out k hk) hKw.size)
  have HX1 := (show Hid (w1.heap[bx]? = some (.cells #[.int .i64 f, .slice ao n c] 25 (0, 0)) ∧ w1.heap[bz]? = some (.cells #[.int .i64 0, .int .i64 0] 50 (0, 0)) ∧ Keep [] w w1) from ⟨hx1, hy1, hKw⟩)
  clear hx hy hx1 hy1 hK hK1 p0 p1 hKw HA HT
  go_cut [] from 16 to 31 (fun wz => Hid ((∃ F', IsRTab wz hb mb F' (ds ++ [(f, L)]) ∧ (∀ k, k ∈ F' → k ∈ F ∨ w1.heap.size ≤ k)) ∧ Keep F w1 wz))
  case first =>
    go_region_law (first
      | (refine step_append_lies _ rfl (.tmp 20) (.tmp 28) 63 rfl 0 25 i0 (.agg #[.int .i64 0, .slice none 0 0]) 2 32 Tryz.underlying63 hI.out.1 hI.out.2.1 hI.out.2.2.1 hI.out.2.2.2 rfl (by decide) (.slice va dl vc) dl (flat cs) rfl HO3.out ⟨w3.heap.size, 0, none⟩ 1 1 [.int .i64 f, .slice la n lc] rfl rfl (World.news_of_block (heap_alloc_new w3 _)) (oneCells f la n lc) (by omega) (by unfold maxLen; omega) (by omega) (by omega) (w3.heap.size + 1) (by simp) ?_; intro g cap w4 hown hgrow hat hlt; have HADD := (show Hid (RTabAt (w4.setCell ⟨hb, 1, none⟩ (.slice (some ⟨g, 0, none⟩) (cs.length + 1) cap)) hb mb (some ⟨g, 0, none⟩) cap (g :: (la.toList.map (·.block) ++ F)) (cs ++ [⟨f, la, lc, L⟩]) ∧ Keep F w3 (w4.setCell ⟨hb, 1, none⟩ (.slice (some ⟨g, 0, none⟩) (cs.length + 1) cap))) from RTabAt.added (B := w1.heap.size) HT3.out HB1.out HG.out.1 HG.out.2.1 HG.out.2.2.1 HG.out.2.2.2.1 HG.out.2.2.2.2 (by rw [HDL.out, HN.out]; exact hown) (by rw [HDL.out]; exact hgrow) (by rw [HDL.out]; exact hat) hlt); have HGB := (show Hid (g ∈ F ∨ w1.heap.size ≤ g) from HGW.out g hat); obtain ⟨hcell4, hfree4⟩ := HT3.out.far4 (by rw [HDL.out]; exact hgrow); rw [HDL.out] at hcell4; clear hown hgrow hat hlt)
      | (refine step_append_own0 rfl (.tmp 23) (.tmp 25) 23 rfl w1.heap.size 3 j0 Tryz.underlying23 hJ.out L w1.heap.size rfl HOE.out (by simp) ao n c HN.out rfl HAE.out HC.out hbd ?_; intro la lc w3 hG1 hG2 hG3 hgr; have hK3 : Keep [] w1 w3 := (hKE.grown hgr (fun k e => by cases e; exact Nat.le_refl _)); have hT3 := HTA.out.keep hK3 (by simp); have hcell3 := hT3.cell; rw [HDL.out] at hcell3; have hx3 := hK3.blk HX1.out.1 (by simp); obtain ⟨d0, d1⟩ := two_cells hx3; have hcell3a : (w3.alloc (.cells #[.int .i64 f, .slice la n lc] 25)).cell? ⟨hb, 1, none⟩ = some (.slice va dl vc) := ((Keep.alloc [] w3 _).cell (hT3.lt _ hT3.tF) (by simp) 1).trans hcell3; have HT3 := (show Hid (RTabAt w3 hb mb va vc F cs) from hT3); have HK3 := (show Hid (Keep [] w1 w3) from hK3); have HO3 := (show Hid ((w3.alloc (.cells #[.int .i64 f, .slice la n lc] 25)).ownsRow 0 25 2 (.slice va dl vc) dl (flat cs)) from (by have := hT3.own.alloc (.cells #[.int .i64 f, .slice la n lc] 25); rw [HDL.out] at this; exact this)); have HG := (show Hid (IntsAt w3 la L ∧ (la = none → lc = 0) ∧ L.length ≤ 1000000 ∧ (∀ a, la = some a → w1.heap.size ≤ a.block ∧ a.block < w3.heap.size) ∧ w1.heap.size ≤ w3.heap.size) from ⟨hG1, hG2, (by rw [HN.out]; exact hbd), hG3, hK3.size⟩); have HGW := (show Hid (∀ g, (Value.slice va dl vc).ownBlock = some g ∨ g = w3.heap.size + 1 → g ∈ F ∨ w1.heap.size ≤ g) from (by
          intro g hg
          rcases hg with e | e
          · left
            cases va with
            | none => simp [Value.ownBlock] at e
            | some a => simp [Value.ownBlock] at e; rw [← e]; exact (hT3.vF a rfl).1
          · right
            have := hK3.size
            omega)); clear hT3 hG1 hG2 hG3 hgr))
    all_goals (
      go_wp2_with fail
      go_meet
      obtain ⟨hA1, hA2⟩ := HADD.out
      rw [HDL.out] at hA1 hA2
      refine ⟨⟨_, ⟨_, _, _, hA1, by rw [HE.out]; simp [CV.d]⟩, ?_⟩, (HK3.out.mono (by simp)).trans hA2⟩
      intro k hk
      simp at hk
      rcases hk with rfl | ⟨a, e, rfl⟩ | hk
      · exact HGB.out
      · right
        exact (HG.out.2.2.2.1 a e).1
      · exact .inl hk)
  case rest =>
    obtain ⟨⟨F', hT5, hF5⟩, hK5⟩ := hcut.out
    have HT5 := (show Hid (IsRTab wc hb mb F' (ds ++ [(f, L)]) ∧ (∀ k, k ∈ F' → k ∈ F ∨ w1.heap.size ≤ k) ∧ Keep F w1 wc) from ⟨hT5, hF5, hK5⟩)
    obtain ⟨va5, vc5, cs5, h5, e5⟩ := hT5
    have hcell5 := h5.cell
    have hl5 : cs5.length = dl + 1 := by
      have := congrArg List.length e5
      rw [List.length_append, List.length_map, hdl] at this
      simpa using this.symm
    rw [hl5] at hcell5
    have hy5 := hK5.blk HX1.out.2.1 (fun e => by have := HB.out bz e; have := HBZ.out; omega)
    obtain ⟨d0, d1⟩ := two_cells hy5
    obtain ⟨f0, f1⟩ := two_free hy5
    clear h5 e5 hl5 hF5 hK5 hcell hcellE c0 c1 e0 e1 hKE hdl
    go_wp2_with fail
    obtain ⟨z, hk4⟩ := two_put hy5 (.int .i64 ((dl : Int) + 1)) (.int .i64 0)
    refine bodyPost_ret (results_cell_row rfl _ _ bz 50 #[.int .i64 ((dl : Int) + 1), .int .i64 0] (0, 0) _ rfl z Tryz.underlying50 rfl (by kernel_rfl)) rfl ?_
    obtain ⟨q1, q2, q3⟩ := HT5.out
    have hw1 := HX1.out.2.2.size
    have hbz := lt_of_block HX1.out.2.1
    obtain ⟨hb1, hb2⟩ := HBZ.out
    have hdl : ds.length = dl := HLN.out.symm.trans HDL.out
    refine ⟨by rw [hdl], ⟨F', q1.keep hk4 (fun k hk e => ?_), fun k hk => ?_⟩, ?_⟩
    · simp at e
      subst e
      rcases q2 k hk with e | e
      · have := HB.out k e; omega
      · omega
    · rcases q2 k hk with e | e
      · exact .inl e
      · right; omega
    · have K := ((HX1.out.2.2.mono (T := F) (by simp)).trans q3)
      refine ⟨hk4.os.trans K.os, hk4.tape.trans K.tape, hk4.output.trans K.output, Nat.le_trans K.size hk4.size, fun k hk hS => ?_⟩
      rw [hk4.block k (Nat.lt_of_lt_of_le hk K.size) (by simp; omega), K.block k hk hS]
section
variable {w0 : World} {F0 : List Nat} {hb mb : Nat} {ws : List Int} {kd : List PK} {ds : List (Int × List Int)}
theorem radd (f : Int) (ao : Option Addr) (n c : Nat) (L : List Int) (w : World) (h : Has w0 F0 (rheapA hb ws kd ds) w) (hA : IntsAt w ao L) (hc : ao = none → c = 0) (hn : L.length = n) (hbd : n ≤ 1000000) :
    Calls Tryz.prog 17 #[.pointer (some ⟨hb, 0, none⟩), .agg #[.int .i64 f, .slice ao n c]] w fun e w' => e = .returned (.agg #[.int .i64 (addN ds f L), .int .i64 (addE ds f L)]) ∧ Has w0 F0 (rheapA hb ws kd (addR ds f L)) w' := by
  have hf' := h.rfine.add f L
  obtain ⟨mb, hr⟩ := h.rraw
  cases hm : mayB f L with
  | false =>
    refine (radd_arg hb f ao n c L w hA hn hbd hm).mono ?_
    rintro e w' ⟨rfl, hK⟩
    refine ⟨by simp [addN, addE, hm], ?_⟩
    have e : addR ds f L = ds := by simp [addR, hm]
    rw [e]; exact h.keep0 hK
  | true =>
    by_cases hf : ds.length < 256
    · obtain ⟨G, ⟨F1, F2, hF, h1, h2, hd⟩, u⟩ := hr
      refine (radd_yes hb mb F1 ds f ao n c L w h1 hA hc hn hbd hm hf).mono ?_
      rintro e w' ⟨rfl, ⟨F', hT, hG⟩, hK⟩
      have e : addR ds f L = ds ++ [(f, L)] := by simp [addR, hm, hf]
      rw [e] at hf' ⊢
      obtain ⟨G2, g3, g4⟩ := star_left (A' := rtabA hb mb (ds ++ [(f, L)])) (B := rspaceA mb ws kd) hF hd h2 hT ⟨hK, hG⟩
      exact ⟨by simp [addN, addE, hm, hf], Has.rheap ⟨G2, g3, u.trans g4⟩ hf'⟩
    · obtain ⟨G, hT⟩ := hr.rtab
      refine (radd_full hb mb G ds f ao n c L w hT hA hn hbd hm (by omega)).mono ?_
      rintro e w' ⟨rfl, hK⟩
      refine ⟨by simp [addN, addE, hm, hf], ?_⟩
      have e : addR ds f L = ds := by simp [addR, hm, hf]
      rw [e]; exact h.keep0 hK
end

end Go.Proofs.YtdpaffnpedcmpaaGreat

/-
  Two lists of objects: as they lie in memory, and whether they are one.
-/
namespace Go.Proofs.YtdpaffnpedcmpaaGreat
open Go.RowKit

/-- An object in memory: its fields lie wherever they lie. -/
structure RV where
  o : OM
  la : Option Addr
  lc : Nat
def RV.cells (v : RV) : List Value := [.int .i64 v.o.a, .int .i64 v.o.k, .int .i64 v.o.c, .int .i64 v.o.l, .bool v.o.f, .slice v.la v.o.L.length v.lc]
def flatR (vs : List RV) : List Value := vs.flatMap RV.cells
theorem flatR_app (vs us : List RV) : flatR (vs ++ us) = flatR vs ++ flatR us := by simp [flatR]
theorem flatR_one (v : RV) : flatR [v] = v.cells := by simp [flatR]
theorem flatR_length (vs : List RV) : (flatR vs).length = vs.length * 6 := by
  induction vs with
  | nil => rfl
  | cons c cs ih => simp [flatR, RV.cells] at *; omega
theorem flatR_get (vs : List RV) (i : Nat) (v : RV) (h : vs[i]? = some v) (t : Nat) (ht : t < 6) : (flatR vs)[i * 6 + t]? = v.cells[t]? := by
  induction vs generalizing i with
  | nil => simp at h
  | cons d vs ih =>
    have e : flatR (d :: vs) = d.cells ++ flatR vs := by simp [flatR]
    have hd : d.cells.length = 6 := rfl
    rw [e]
    cases i with
    | zero => simp at h; subst h; rw [List.getElem?_append_left (by omega)]; simp
    | succ i =>
      simp at h
      rw [List.getElem?_append_right (by omega), hd, show (i + 1) * 6 + t - 6 = i * 6 + t by omega]
      exact ih i h
def OV.rv (v : OV) : RV := ⟨v.o, some ⟨v.z, 0, none⟩, v.o.L.length⟩
theorem flatO_rv (vs : List OV) : flatO vs = flatR (vs.map OV.rv) := by
  induction vs with
  | nil => rfl
  | cons v vs ih => simp [flatO, flatR, OV.cells, RV.cells, OV.rv] at *; exact ih

/-- A list of objects that is read. -/
structure ObjL (w : World) (va : Option Addr) (n : Nat) (vs : List RV) : Prop where
  len : vs.length = n
  cells : 0 < n → ∃ b, va = some ⟨b, 0, none⟩ ∧ b < w.heap.size ∧ ∀ (i : Nat) (v : RV) (t : Nat), vs[i]? = some v → t < 6 → w.cell? ⟨b, i * 6 + t, none⟩ = v.cells[t]?
  each : ∀ (i : Nat) (v : RV), vs[i]? = some v → IntsAt w v.la v.o.L ∧ v.o.L.length ≤ 1000000
theorem ObjL.keep0 {w w' : World} {va : Option Addr} {n : Nat} {vs : List RV} (h : ObjL w va n vs) (K : Keep [] w w') : ObjL w' va n vs :=
  ⟨h.len, fun h0 => by
    obtain ⟨b, e, hb, hc⟩ := h.cells h0
    exact ⟨b, e, Nat.lt_of_lt_of_le hb K.size, fun i v t h1 h2 => (K.cell hb (by simp) _).trans (hc i v t h1 h2)⟩, fun i v e => ⟨(h.each i v e).1.keep K (fun _ _ _ => by simp), (h.each i v e).2⟩⟩
theorem own_cells {w : World} {base n vc : Nat} {va : Option Addr} {vs : List RV} (hown : w.ownsRow base 92 6 (.slice va n vc) n (flatR vs)) (hl : vs.length = n) (h0 : 0 < n) :
    ∃ b, va = some ⟨b, 0, none⟩ ∧ b < w.heap.size ∧ ∀ (i : Nat) (v : RV) (t : Nat), vs[i]? = some v → t < 6 → w.cell? ⟨b, i * 6 + t, none⟩ = v.cells[t]? := by
  rcases hown.2 with ⟨h1, h0⟩ | ⟨g, cap, cur, h1, h2, h3, h4, h5, h6, h7⟩
  · omega
  · cases h1
    refine ⟨g, rfl, lt_of_block h3, fun i v t hv ht => ?_⟩
    have hi : i < vs.length := by
      rcases Nat.lt_or_ge i vs.length with e | e
      · exact e
      · rw [List.getElem?_eq_none e] at hv; cases hv
    rw [hl] at hi
    have e := flatR_get vs i v hv t ht
    rw [← h7, List.getElem?_take, if_pos (by omega)] at e
    have e' : cur[i * 6 + t]? = v.cells[t]? := by simpa using e
    simp [World.cell?, h3, e']
theorem ObjsAt.read {w0 w : World} {va : Option Addr} {n vc : Nat} {vs : List OV} (h : ObjsAt w0 w va n vc vs) (hb : ∀ v, v ∈ vs → (∀ i : Nat, inI (v.o.L[i]?.getD 0)) ∧ v.o.L.length ≤ 1000000) : ObjL w va n (vs.map OV.rv) := by
  have ho := h.own
  rw [flatO_rv] at ho
  refine ⟨by rw [List.length_map]; exact h.len, own_cells ho (by rw [List.length_map]; exact h.len), fun i v e => ?_⟩
  rw [List.getElem?_map] at e
  cases hv : vs[i]? with
  | none => rw [hv] at e; cases e
  | some u =>
    rw [hv] at e
    simp at e
    subst e
    obtain ⟨h1, _⟩ := h.each i u hv
    obtain ⟨b1, b2⟩ := hb u (List.mem_of_getElem? hv)
    exact ⟨h1.ints b1, b2⟩

set_option maxRecDepth 100000 in
set_option maxHeartbeats 1600000 in
theorem sameObjs (va vb : Option Addr) (n c d : Nat) (us vs : List RV) (w : World) (hA : ObjL w va n us) (hB : ObjL w vb n vs) (he : us.map RV.o = vs.map RV.o) (hn : n ≤ 1000000) :
    Calls Tryz.prog 31 #[.slice va n c, .slice vb n d] w fun e w' => e = .returned (.bool true) ∧ Keep [] w w' := by
  have HA := (show Hid (ObjL w va n us) from hA)
  have HB := (show Hid (ObjL w vb n vs) from hB)
  have HE := (show Hid (us.map RV.o = vs.map RV.o) from he)
  clear hA hB he
  go_enter Tryz.func31, Tryz.ntmps31
  go_wp2
  go_loopw [5] (fun i wr => ∃ j : Nat, i = .int .i64 j ∧ j ≤ n ∧ Keep [] w wr) (fun i _ => n - (intOf i).toNat)
  case atStart => exact ⟨0, rfl, by omega, Keep.refl _ _⟩
  case round =>
    obtain ⟨j, rfl, hj, hK⟩ := hrel
    obtain ⟨w1, rfl⟩ : ∃ w1, w1 = wr := ⟨_, rfl⟩
    by_cases hlt : j < n
    · have hA1 := HA.out.keep0 hK
      have hB1 := HB.out.keep0 hK
      obtain ⟨u, hu⟩ : ∃ u, us[j]? = some u := ⟨us[j]'(by rw [hA1.len]; exact hlt), by simp [hA1.len, hlt]⟩
      obtain ⟨v, hv⟩ : ∃ v, vs[j]? = some v := ⟨vs[j]'(by rw [hB1.len]; exact hlt), by simp [hB1.len, hlt]⟩
      have huv : u.o = v.o := by
        have := congrArg (fun l : List OM => l[j]?) HE.out
        simpa [List.getElem?_map, hu, hv] using this
      obtain ⟨b, rfl, hbs, hcell⟩ := hA1.cells (by omega)
      obtain ⟨b2, rfl, hbs2, hcell2⟩ := hB1.cells (by omega)
      have x0 := hcell j u 0 hu (by omega)
      have x1 := hcell j u 1 hu (by omega)
      have x2 := hcell j u 2 hu (by omega)
      have x3 := hcell j u 3 hu (by omega)
      have x4 := hcell j u 4 hu (by omega)
      have x5 := hcell j u 5 hu (by omega)
      have y0 := hcell2 j v 0 hv (by omega)
      have y1 := hcell2 j v 1 hv (by omega)
      have y2 := hcell2 j v 2 hv (by omega)
      have y3 := hcell2 j v 3 hv (by omega)
      have y4 := hcell2 j v 4 hv (by omega)
      have y5 := hcell2 j v 5 hv (by omega)
      obtain ⟨hIu, hlu⟩ := hA1.each j u hu
      obtain ⟨hIv, hlv⟩ := hB1.each j v hv
      rw [← huv] at hIv
      simp only [RV.cells, ← huv, Nat.add_zero, List.getElem?_cons_zero, List.getElem?_cons_succ] at x0 x1 x2 x3 x4 x5 y0 y1 y2 y3 y4 y5
      have HIU := (show Hid (IntsAt w1 u.la u.o.L ∧ IntsAt w1 v.la u.o.L) from ⟨hIu, hIv⟩)
      obtain ⟨m, hm⟩ : ∃ m, u.o.L.length = m := ⟨_, rfl⟩
      have HM := (show Hid (u.o.L.length = m) from hm)
      rw [hm] at x5 y5 hlu
      clear hA1 hB1 hcell hcell2 hIu hIv huv hu hv hm hlv
      generalize u.o.a = qa at *
      generalize u.o.k = qk at *
      generalize u.o.c = qc at *
      generalize u.o.l = ql at *
      generalize u.o.f = qf at *
      go_wp2_with fail
      go_quiet (first | (go_at_call 28; exact Calls.quiet_of (same_q u.la v.la m u.lc v.lc u.o.L _ (HIU.out.1.keep (Keep.drewN [] _ _) (by simp [Off])) (HIU.out.2.keep (Keep.drewN [] _ _) (by simp [Off])) HM.out hlu)))
      have hK7 := hK.trans (Keep.drewN [] w1 nq)
      generalize w1.drewN nq = w7 at *
      go_wp2_with fail
      go_roundw
      case rel => exact ⟨j + 1, by go_num, by omega, hK7⟩
      case measure => simp [intOf]; omega
    · obtain rfl : j = n := by omega
      go_wp2_with fail
      go_ret
      exact ⟨rfl, hK⟩

end Go.Proofs.YtdpaffnpedcmpaaGreat

/-
  Two lists of integers that a call grows by turns, each in memory of its own.
-/
namespace Go.Proofs.YtdpaffnpedcmpaaGreat
open Go.RowKit

theorem snoc_old (L : List Int) (x : Int) (t : Nat) (h : t < L.length) : (L ++ [x])[t]?.getD 0 = L[t]?.getD 0 := by rw [List.getElem?_append_left h]
theorem snoc_new (L : List Int) (x : Int) (t : Nat) (h : t = L.length) : (L ++ [x])[t]?.getD 0 = x := by subst h; simp
theorem own_keep {S : List Nat} {w w' : World} {base : Nat} {e : TypeId} {size : Nat} {v : Value} {n : Nat} {xs : List Value} (h : w.ownsRow base e size v n xs) (k : Keep S w w') (hS : ∀ x, x ∈ S → x < base) : w'.ownsRow base e size v n xs := by
  refine ⟨h.1, ?_⟩
  rcases h.2 with h | ⟨g, cap, cur, h1, h2, h3, h4⟩
  · exact .inl h
  · exact .inr ⟨g, cap, cur, h1, h2, k.blk h3 (fun e => by have := hS g e; omega), h4⟩
/-- Two slices lie in two blocks. -/
def Apart (la ls : Option Addr) : Prop := ∀ x y, la = some x → ls = some y → x.block ≠ y.block
theorem Apart.kept {la ls : Option Addr} (h : Apart la ls) (q c q' c' : Nat) : (Value.slice ls q c).ownBlock = none ∨ (Value.slice ls q c).ownBlock ≠ (Value.slice la q' c').ownBlock := by
  cases ls with
  | none => exact .inl rfl
  | some y =>
    cases la with
    | none => exact .inr (by simp [Value.ownBlock])
    | some x => exact .inr (by have := h x y rfl rfl; simp [Value.ownBlock]; omega)
theorem Apart.symm {la ls : Option Addr} (h : Apart la ls) : Apart ls la := fun x y hx hy e => h y x hy hx e.symm
theorem Apart.grown {la ls : Option Addr} {g q c H : Nat} (h : Apart la ls) (hg : (Value.slice la q c).ownBlock = some g ∨ g = H) (hl : ∀ y, ls = some y → y.block < H) : Apart (some ⟨g, 0, none⟩) ls := by
  intro x y hx hy e
  cases hx
  simp only at e
  rcases hg with hg | hg
  · cases la with
    | none => simp [Value.ownBlock] at hg
    | some z => simp [Value.ownBlock] at hg; exact h z y rfl hy (by omega)
  · have := hl y hy; omega
theorem own_at {w : World} {base : Nat} {e : TypeId} {la : Option Addr} {q c : Nat} {L : List Int} (h : w.ownsRow base e 1 (.slice la q c) q (ints L)) (hb : ∀ i : Nat, -9223372036854775808 ≤ L[i]?.getD 0 ∧ L[i]?.getD 0 ≤ 9223372036854775807) :
    IntsAt w la L ∧ L.length = q ∧ (∀ y, la = some y → base ≤ y.block ∧ y.block < w.heap.size) := by
  have hn : L.length = q := by have := h.1; rw [ints_length, Nat.mul_one] at this; exact this
  rcases own_ints h hb with ⟨h1, h2, _⟩ | ⟨g, cap, h1, _, h3, h4, h5⟩
  · cases h1; subst h2; exact ⟨IntsAt.nil _ _, hn, fun y hy => by cases hy⟩
  · cases h1; exact ⟨h5, hn, fun y hy => by cases hy; exact ⟨h3, h4⟩⟩
theorem grown_keep {w w' : World} {la : Option Addr} {q c : Nat} (hg : w.grownBy w' (Value.slice la q c).ownBlock) : Keep (la.toList.map (·.block)) w w' := by
  refine ⟨hg.os, hg.tape, hg.output, hg.size, fun k hk hS => hg.block k hk (fun e => hS ?_)⟩
  cases la with
  | none => simp [Value.ownBlock] at e
  | some x => simp [Value.ownBlock] at e; simp [e]
theorem blocks_ge {la : Option Addr} {base m : Nat} (h : ∀ y, la = some y → base ≤ y.block ∧ y.block < m) : ∀ x, x ∈ la.toList.map (·.block) → base ≤ x := by
  intro x hx
  cases la with
  | none => simp at hx
  | some y => simp at hx; subst hx; exact (h y rfl).1

theorem own_keepS {S : List Nat} {w w' : World} {base : Nat} {e : TypeId} {size : Nat} {la : Option Addr} {q c n : Nat} {xs : List Value} (h : w.ownsRow base e size (.slice la q c) n xs) (k : Keep S w w') (hS : ∀ y, la = some y → y.block ∉ S) : w'.ownsRow base e size (.slice la q c) n xs := by
  refine ⟨h.1, ?_⟩
  rcases h.2 with h | ⟨g, cap, cur, h1, h2, h3, h4⟩
  · exact .inl h
  · refine .inr ⟨g, cap, cur, h1, h2, k.blk h3 ?_, h4⟩
    cases h1
    exact hS _ rfl

end Go.Proofs.YtdpaffnpedcmpaaGreat

/-
  The document's own heap: Objects.
-/
namespace Go.Proofs.YtdpaffnpedcmpaaGreat
open Go.RowKit

/-- A list of objects that was made since w0. -/
structure RObjsAt (w0 w : World) (va : Option Addr) (n vc : Nat) (vs : List RV) : Prop where
  own : w.ownsRow w0.heap.size 92 6 (.slice va n vc) n (flatR vs)
  len : vs.length = n
  each : ∀ (i : Nat) (v : RV), vs[i]? = some v → IntsAt w v.la v.o.L ∧ v.o.L.length ≤ 1000000 ∧ ∀ a, v.la = some a → w0.heap.size ≤ a.block ∧ a.block < w.heap.size ∧ ∀ b, va = some b → b.block ≠ a.block
theorem RObjsAt.nil (w0 w : World) : RObjsAt w0 w none 0 0 [] := ⟨World.ownsRow_nil _ _ _ _, rfl, fun i v h => by simp at h⟩
theorem RObjsAt.keep0 {w0 w w' : World} {va : Option Addr} {n vc : Nat} {vs : List RV} (h : RObjsAt w0 w va n vc vs) (K : Keep [] w w') : RObjsAt w0 w' va n vc vs := by
  refine ⟨⟨h.own.1, ?_⟩, h.len, fun i v e => ?_⟩
  · rcases h.own.2 with h1 | ⟨g, cap, cur, h1, h2, h3, h4⟩
    · exact .inl h1
    · exact .inr ⟨g, cap, cur, h1, h2, K.blk h3 (by simp), h4⟩
  · obtain ⟨h1, h2, h3⟩ := h.each i v e
    exact ⟨h1.keep K (fun _ _ _ => by simp), h2, fun a e => ⟨(h3 a e).1, Nat.lt_of_lt_of_le (h3 a e).2.1 K.size, (h3 a e).2.2⟩⟩
theorem RObjsAt.read {w0 w : World} {va : Option Addr} {n vc : Nat} {vs : List RV} (h : RObjsAt w0 w va n vc vs) : ObjL w va n vs :=
  ⟨h.len, own_cells h.own h.len, fun i v e => ⟨(h.each i v e).1, (h.each i v e).2.1⟩⟩
theorem RObjsAt.far {w0 w : World} {va : Option Addr} {n vc : Nat} {vs : List RV} (h : RObjsAt w0 w va n vc vs) (k : Nat) (e : (Value.slice va n vc).ownBlock = some k) : w0.heap.size ≤ k ∧ k < w.heap.size ∧ ∃ a, va = some a ∧ a.block = k := by
  rcases h.own.2 with ⟨h1, _⟩ | ⟨g, cap, cur, h1, h2, h3, _⟩
  · rw [h1] at e; cases e
  · rw [h1] at e; cases e; cases h1; exact ⟨h2, lt_of_block h3, _, rfl, rfl⟩
theorem RObjsAt.grow {w0 w w4 : World} {va : Option Addr} {n vc : Nat} {vs : List RV} {ob : Obj} (h : RObjsAt w0 w va n vc vs) (K : Keep [] w0 w) (hg : (w.alloc ob).grownBy w4 (Value.slice va n vc).ownBlock) : Keep [] w0 w4 :=
  (K.trans (Keep.alloc [] w ob)).grown hg (fun k e => (h.far k e).1)
theorem RObjsAt.added {w0 w w4 : World} {va la : Option Addr} {n vc g cap lc : Nat} {vs : List RV} {o : OM} {ob : Obj} (h : RObjsAt w0 w va n vc vs) (hI : IntsAt w la o.L) (hL : o.L.length ≤ 1000000) (hla : ∀ a, la = some a → w0.heap.size ≤ a.block ∧ a.block < w.heap.size ∧ ∀ b, va = some b → b.block ≠ a.block)
    (hown : w4.ownsRow w0.heap.size 92 6 (.slice (some ⟨g, 0, none⟩) (n + 1) cap) (n + 1) (flatR vs ++ RV.cells ⟨o, la, lc⟩)) (hg : (w.alloc ob).grownBy w4 (Value.slice va n vc).ownBlock) (hat : (Value.slice va n vc).ownBlock = some g ∨ g = w.heap.size + 1) :
    RObjsAt w0 w4 (some ⟨g, 0, none⟩) (n + 1) cap (vs ++ [⟨o, la, lc⟩]) := by
  have ints : ∀ (ao : Option Addr) (M : List Int), IntsAt w ao M → (∀ a, ao = some a → a.block < w.heap.size ∧ ∀ b, va = some b → b.block ≠ a.block) → IntsAt w4 ao M ∧ ∀ a, ao = some a → a.block < w4.heap.size ∧ g ≠ a.block := by
    intro ao M hM ha
    have hne : ∀ a, ao = some a → (Value.slice va n vc).ownBlock ≠ some a.block := fun a e e' => by
      obtain ⟨_, _, b, e1, e2⟩ := h.far _ e'
      exact (ha a e).2 b e1 e2
    refine ⟨⟨fun h0 => ?_, hM.low, hM.high⟩, fun a e => ⟨Nat.lt_of_lt_of_le (ha a e).1 (Nat.le_trans (by simp) hg.size), fun e' => ?_⟩⟩
    · obtain ⟨b, off, rfl, hb, hc⟩ := hM.cells h0
      have e : w4.heap[b]? = w.heap[b]? := (hg.block b (by simp; omega) (fun e => hne _ rfl e.symm)).trans (Below.heap_alloc _ _ _ hb)
      exact ⟨b, off, rfl, Nat.lt_of_lt_of_le hb (Nat.le_trans (by simp) hg.size), fun i hi => (World.cell?_of_block (w := w) e).trans (hc i hi)⟩
    · rcases hat with e2 | e2
      · exact hne a e (by rw [e2, e'])
      · have := (ha a e).1; omega
  refine ⟨by rw [flatR_app, flatR_one]; exact hown, by simp [h.len], fun i v e => ?_⟩
  rcases Nat.lt_trichotomy i vs.length with hi | hi | hi
  · rw [List.getElem?_append_left hi] at e
    obtain ⟨h1, h2, h3⟩ := h.each i v e
    obtain ⟨r1, r2⟩ := ints _ _ h1 (fun a e => (h3 a e).2)
    exact ⟨r1, h2, fun a e => ⟨(h3 a e).1, (r2 a e).1, fun b eb => by cases eb; exact (r2 a e).2⟩⟩
  · subst hi
    simp at e
    subst e
    obtain ⟨r1, r2⟩ := ints _ _ hI (fun a e => (hla a e).2)
    exact ⟨r1, hL, fun a e => ⟨(hla a e).1, (r2 a e).1, fun b eb => by cases eb; exact (r2 a e).2⟩⟩
  · rw [List.getElem?_eq_none (by simp; omega)] at e; cases e

section
variable {w0 : World} {F0 : List Nat} {hb : Nat} {ws : List Int} {kd : List PK} {ds : List (Int × List Int)}
theorem words_at {w : World} {gw n : Nat} {ws : List Int} (hc : ∀ i, i < n → w.cell? ⟨gw, i, none⟩ = some (.int .i64 (ws[i]?.getD 0))) (hb : ∀ i : Nat, inI (ws[i]?.getD 0)) (b b1 q : Nat) (h1 : b + 1 = b1) (h2 : b1 + q ≤ n) : IntsAt w (some ⟨gw, b1, none⟩) (wordsL ws b (q : Int)) := by
  refine ⟨fun h0 => ⟨gw, b1, rfl, ?_, fun i hi => ?_⟩, fun i => (wordsL_bd hb b q i).1, fun i => (wordsL_bd hb b q i).2⟩
  · rw [wordsL_length, Int.toNat_natCast] at h0
    exact lt_of_cell2 (hc b1 (by omega))
  · rw [wordsL_length, Int.toNat_natCast] at hi
    rw [hc (b1 + i) (by omega), wordsL_get _ _ _ i (by rw [Int.toNat_natCast]; exact hi), h1]
set_option maxRecDepth 100000 in
set_option maxHeartbeats 3200000 in
theorem robjects (w : World) (h : Has w0 F0 (rheapA hb ws kd ds) w) :
    Calls Tryz.prog 32 #[.pointer (some ⟨hb, 0, none⟩)] w fun e w' => ∃ va vc vs, e = .returned (.slice va (eachK kd).length vc) ∧ ObjL w' va (eachK kd).length vs ∧ vs.map RV.o = objsK kd ws ∧ Keep [] w w' := by
  obtain ⟨i0, hi, hz0, hz1, hz2⟩ := info_parts Tryz.infoObj
  have hI : Hid (Tryz.prog.info? 92 = some i0 ∧ i0.zero = some (.agg #[.int .i64 0, .int .i64 0, .int .i64 0, .int .i64 0, .bool false, .slice none 0 0]) ∧ i0.size = 6 ∧ i0.bytes = 64) := ⟨hi, hz0, hz1, hz2⟩
  clear hi hz0 hz1 hz2
  obtain ⟨j0, hi, hz0, hz1, hz2⟩ := info_parts Tryz.infoIntC
  have hJ : Hid (Tryz.prog.info? 3 = some j0 ∧ j0.zero = some (.int .i64 0) ∧ j0.size = 1 ∧ j0.bytes = 8) := ⟨hi, hz0, hz1, hz2⟩
  clear hi hz0 hz1 hz2
  obtain ⟨mb, hr⟩ := h.rraw
  have hfi := h.rfine
  have HX := (show Hid (Has w0 F0 (rheapA hb ws kd ds) w) from h)
  have HR := (show Hid (Has w0 F0 (rrawA hb mb ws kd ds) w) from hr)
  have HF := (show Hid (Fine ws kd ds) from hfi)
  obtain ⟨c0, _⟩ := hr.rcells
  have hnb : (eachK kd).length ≤ 32 * kd.length := hfi.wf.each_len kd.length
  have hn2 := hfi.wf.len2
  obtain ⟨n, hn⟩ : ∃ n, (eachK kd).length = n := ⟨_, rfl⟩
  have HN := (show Hid ((eachK kd).length = n) from hn)
  rw [hn] at hnb ⊢
  obtain ⟨N6, hN6⟩ : ∃ N6, 64 * kd.length = N6 := ⟨_, rfl⟩
  have HN6 := (show Hid (64 * kd.length = N6) from hN6)
  have hN6b : N6 ≤ 16384 := by omega
  clear h hr hfi hn hN6
  go_enter Tryz.func32, Tryz.ntmps32
  go_wp2_with (first | (go_at_call 44; refine (yeach _ HR.out HF.out.wf).mono ?_; rw [HN.out]; rintro e w1 ⟨la, lc, rfl, hIn, hK1⟩))
  have HI := (show Hid (IntsAt w1 la (eachK kd)) from hIn)
  clear hIn
  go_loopw [3, 5] (fun v i wr => ∃ (j : Nat) (va : Option Addr) (vc : Nat) (vs : List RV), v = .slice va j vc ∧ i = .int .i64 j ∧ j ≤ n ∧ Hid (RObjsAt w1 wr va j vc vs) ∧ Hid (vs.map RV.o = (objsK kd ws).take j) ∧ Keep [] w1 wr) (fun _ i _ => n - (intOf i).toNat)
  case atStart => exact ⟨0, none, 0, [], rfl, rfl, by omega, RObjsAt.nil _ _, by show _ = _; simp, Keep.refl _ _⟩
  case round =>
    obtain ⟨j, va, vc, vs, rfl, rfl, hj, HO, HM, hK⟩ := hrel
    have hKw := hK1.trans hK
    by_cases hlt : j < n
    · obtain ⟨b, m, k, c, l, f, he, hA, hlm, hob⟩ := each_at9 HF.out j (by rw [HN.out]; exact hlt)
      obtain ⟨p, off, rfl, hps, hcell⟩ := HI.out.cells (by rw [HN.out]; omega)
      have hc := (hK.cell hps (by simp) (off + j)).trans (hcell j (by rw [HN.out]; exact hlt))
      rw [he] at hc
      simp only [Option.getD_some] at hc
      have HNX := (show Hid ((objsK kd ws).take (j + 1) = (objsK kd ws).take j ++ [⟨b, k, c, l, f, wordsL ws b l⟩]) from by
        show _ = _
        have : (objsK kd ws)[j]? = some ⟨b, k, c, l, f, wordsL ws b l⟩ := by unfold objsK; rw [List.getElem?_map, he, ← hob]; rfl
        rw [List.take_add_one, this]; rfl)
      obtain ⟨_, e1, e2, e3, e4, e5⟩ := hA.facts HF.out.wf
      have hbd := hA.2.2.bd
      obtain ⟨q, hq⟩ := Int.eq_ofNat_of_zero_le hbd.2.2.2.2.1
      subst hq
      have HT := (show Hid (HeadT kd ws (b : Int) k c (q : Int) f 0) from .yes b m k c q f hA)
      have HL := (show Hid ((wordsL ws b (q : Int)).length = q) from by show _ = _; rw [wordsL_length]; rfl)
      obtain ⟨b1, hb1⟩ : ∃ b1 : Nat, b + 1 = b1 := ⟨_, rfl⟩
      obtain ⟨b2, hb2⟩ : ∃ b2 : Nat, b1 + q = b2 := ⟨_, rfl⟩
      have hb1i : (b : Int) + 1 = b1 := by omega
      have hb2i : (b1 : Int) + q = b2 := by omega
      have hb2l : b2 ≤ N6 := by have := HN6.out; omega
      have HBB := (show Hid (b + 1 = b1 ∧ b1 + q = b2) from ⟨hb1, hb2⟩)
      have hw1 : IntKind.i64.wrap (b1 : Int) = b1 := IntWalk.i64_in _ (by omega)
      have hw2 : IntKind.i64.wrap (b2 : Int) = b2 := IntWalk.i64_in _ (by omega)
      have hz1 : (0 : Int) ≤ (b1 : Int) := by omega
      have hz2 : (0 : Int) ≤ (b2 : Int) := by omega
      have hz3 : (b1 : Int) ≤ (b2 : Int) := by omega
      have hz4 : (b2 : Int) ≤ (N6 : Int) := by omega
      have hz5 : b1 ≤ b2 := by omega
      have hsq : b2 - b1 = q := by omega
      have hbb : b ≤ 20000 := by omega
      have hq3 : q ≤ 1023 := by omega
      clear hcell hA hbd he hob hlm e1 e2 e3 e4 e5 hb1 hb2
      go_upto_region 7 with (first | (go_at_call 27; refine (rhead b k c q 0 f _ (HX.out.keep0 hKw) HT.out).mono ?_; rintro e w3 ⟨rfl, hK3⟩))
      have hx3 := heap_alloc_new w3 (.cells #[.int .i64 k, .int .i64 c, .int .i64 q, .bool f, .bool (okE 0)] 71)
      have hKx := hK3.trans (Keep.alloc [] w3 (.cells #[.int .i64 k, .int .i64 c, .int .i64 q, .bool f, .bool (okE 0)] 71))
      have hK4 := hKw.trans hKx
      have hK4b := hK.trans hKx
      have hO4 := HO.out.keep0 hKx
      have hva : ∀ a, va = some a → a.block ≠ w3.heap.size := by
        intro a e
        rcases HO.out.own.2 with ⟨h1, _⟩ | ⟨g, cap, cur, h1, h2, h3, _⟩
        · cases h1; cases e
        · cases h1; cases e
          have := lt_of_block h3
          have := hK3.size
          show g ≠ _
          omega
      have HVA := (show Hid (∀ a, va = some a → a.block ≠ w3.heap.size) from hva)
      clear hva
      generalize w3.alloc (.cells #[.int .i64 k, .int .i64 c, .int .i64 q, .bool f, .bool (okE 0)] 71) = w4 at *
      generalize w3.heap.size = bx at *
      obtain ⟨_, x0, x1, x2, x3, _⟩ := five_free hx3
      obtain ⟨q0, _, ⟨gw, q1, q2⟩, _⟩ := (HR.out.keep0 hK4).rcells
      rw [HN6.out] at q1 q2
      have hc4 := (hKx.cell (lt_of_cell2 hc) (by simp) (off + j)).trans hc
      have hKE := (Keep.alloc [] w4 (.cells #[] 3)).trans (Keep.drew [] _)
      have HOE := (show Hid (((w4.alloc (.cells #[] 3)).drew).ownsRow w4.heap.size 3 1 (.slice (some ⟨w4.heap.size, 0, none⟩) 0 0) 0 (ints [])) from own_empty w4 3)
      obtain ⟨xo, hxo⟩ : ∃ xo, (if N6 = b1 then some (⟨gw, 0, none⟩ : Addr) else some ⟨gw, b1, none⟩) = xo := ⟨_, rfl⟩
      obtain ⟨xc, hxc⟩ : ∃ xc, N6 - b1 = xc := ⟨_, rfl⟩
      have HIW := (show Hid (IntsAt ((w4.alloc (.cells #[] 3)).drew) xo (wordsL ws b (q : Int)) ∧ (xo = none → xc = 0)) from by
        refine ⟨?_, fun e => by rw [e] at hxo; split at hxo <;> cases hxo⟩
        by_cases e : N6 = b1
        · have hq0 : q = 0 := by omega
          subst hq0
          exact IntsAt.nil _ _
        · rw [if_neg e] at hxo
          subst hxo
          exact (words_at (fun i hi => (q2 i hi).1) HF.out.ob.bd b b1 q HBB.out.1 (by omega)).keep hKE (fun _ _ _ => by simp))
      have HNV := (show Hid ((∀ B, B < w1.heap.size → B ∉ va.toList.map (·.block)) ∧ bx ∉ va.toList.map (·.block)) from ⟨fun B hB e => by
        simp at e
        obtain ⟨a, e1, e2⟩ := e
        have := (HO.out.far a.block (by rw [e1]; rfl)).1
        omega, fun e => by
        simp at e
        obtain ⟨a, e1, e2⟩ := e
        exact HVA.out a e1 e2⟩)
      have HLW := (show Hid (hb < w1.heap.size ∧ mb < w1.heap.size ∧ p < w1.heap.size) from by
        obtain ⟨r0, _, ⟨gw', r1, _⟩, _⟩ := (HR.out.keep0 hK1).rcells
        exact ⟨lt_of_cell2 r0, lt_of_cell2 r1, hps⟩)
      have HLL := (show Hid ((wordsL ws b (q : Int)).length ≤ 1000000) from by show _ ≤ _; rw [HL.out]; omega)
      have hm1 : j + 1 ≤ maxLen := by unfold maxLen; omega
      have hm2 : (j + 1) * 64 ≤ 140737488355328 := by omega
      clear q2 hc hK3 hKx HVA
      go_region_held3 (fun wz => wz.cell? ⟨hb, 0, none⟩ = some (.pointer (some ⟨mb, 0, none⟩)) ∧ wz.cell? ⟨mb, 0, none⟩ = some (.slice (some ⟨gw, 0, none⟩) N6 N6) ∧ wz.cell? ⟨p, off + j, none⟩ = some (.int .i64 b) ∧ wz.cell? ⟨bx, 0, none⟩ = some (.int .i64 k) ∧ wz.cell? ⟨bx, 1, none⟩ = some (.int .i64 c) ∧ wz.cell? ⟨bx, 2, none⟩ = some (.int .i64 q) ∧ wz.cell? ⟨bx, 3, none⟩ = some (.bool f)) (go_keep) (first
        | (refine step_append_own0 rfl (.tmp 31) (.tmp 53) 23 rfl w4.heap.size 3 j0 Tryz.underlying23 hJ.out (wordsL ws b (q : Int)) w4.heap.size rfl HOE.out (by simp) xo q xc HL.out rfl HIW.out.1 HIW.out.2 (by omega) ?_; intro la2 lc2 w6 hG1 hG2 hG3 hgr; have hK6 : Keep [] w4 w6 := (hKE.grown hgr (fun k e => by cases e; exact Nat.le_refl _)); have y0 := (hK6.cell (lt_of_cell2 q0) (by simp) 0).trans q0; have y1 := (hK6.cell (lt_of_cell2 q1) (by simp) 0).trans q1; have y2 := (hK6.cell (lt_of_cell2 hc4) (by simp) (off + j)).trans hc4; have y3 := (hK6.cell (lt_of_cell2 x0) (by simp) 0).trans x0; have y4 := (hK6.cell (lt_of_cell2 x1) (by simp) 1).trans x1; have y5 := (hK6.cell (lt_of_cell2 x2) (by simp) 2).trans x2; have y6 := (hK6.cell (lt_of_cell2 x3) (by simp) 3).trans x3; have HO6 := (show Hid (RObjsAt w1 w6 va j vc vs ∧ Keep [] w1 w6) from ⟨hO4.keep0 hK6, hK4b.trans hK6⟩); have HZ := (show Hid (IntsAt w6 la2 (wordsL ws b (q : Int)) ∧ (∀ a, la2 = some a → w1.heap.size ≤ a.block ∧ a.block < w6.heap.size ∧ ∀ z, va = some z → z.block ≠ a.block)) from ⟨hG1, fun a e => ⟨by have := (hG3 a e).1; have := hK4b.size; omega, (hG3 a e).2, fun z ez => by have := (hG3 a e).1; have := (hO4.far z.block (by rw [ez]; rfl)).2.1; omega⟩⟩); have HCE := (show Hid (RV.cells ⟨⟨b, k, c, q, f, wordsL ws b (q : Int)⟩, la2, lc2⟩ = [.int .i64 b, .int .i64 k, .int .i64 c, .int .i64 q, .bool f, .slice la2 q lc2]) from (by show _ = _; unfold RV.cells; rw [HL.out])); have HOA := (show Hid ((w6.alloc (.cells #[.int .i64 b, .int .i64 k, .int .i64 c, .int .i64 q, .bool f, .slice la2 q lc2] 92)).ownsRow w1.heap.size 92 6 (.slice va j vc) j (flatR vs) ∧ w1.heap.size ≤ (w6.alloc (.cells #[.int .i64 b, .int .i64 k, .int .i64 c, .int .i64 q, .bool f, .slice la2 q lc2] 92)).heap.size) from ⟨(HO6.out.1.keep0 (Keep.alloc [] w6 (.cells #[.int .i64 b, .int .i64 k, .int .i64 c, .int .i64 q, .bool f, .slice la2 q lc2] 92))).own, by have := HO6.out.2.size; simp; omega⟩); clear hG1 hG2 hG3 hgr hK6)
        | (refine step_append_lies (w6.alloc (.cells #[.int .i64 b, .int .i64 k, .int .i64 c, .int .i64 q, .bool f, .slice la2 q lc2] 92)) rfl (.tmp 24) (.tmp 56) 44 rfl w1.heap.size 92 i0 (.agg #[.int .i64 0, .int .i64 0, .int .i64 0, .int .i64 0, .bool false, .slice none 0 0]) 6 64 Tryz.underlying44 hI.out.1 hI.out.2.1 hI.out.2.2.1 hI.out.2.2.2 rfl (by decide) (.slice va j vc) j (flatR vs) rfl HOA.out.1 ⟨w6.heap.size, 0, none⟩ 1 1 [.int .i64 b, .int .i64 k, .int .i64 c, .int .i64 q, .bool f, .slice la2 q lc2] rfl rfl (World.news_of_block (heap_alloc_new w6 (.cells #[.int .i64 b, .int .i64 k, .int .i64 c, .int .i64 q, .bool f, .slice la2 q lc2] 92))) (oneCells6 b k c q f la2 q lc2) Nat.one_pos hm1 hm2 HOA.out.2 (w6.heap.size + 1) (by simp) ?_; intro g cap w7 hown hgrow hat hltg; have HADD := (show Hid (RObjsAt w1 w7 (some ⟨g, 0, none⟩) (j + 1) cap (vs ++ [⟨⟨b, k, c, q, f, wordsL ws b (q : Int)⟩, la2, lc2⟩]) ∧ Keep [] w1 w7) from ⟨HO6.out.1.added (o := ⟨b, k, c, q, f, wordsL ws b (q : Int)⟩) HZ.out.1 (show (wordsL ws b (q : Int)).length ≤ 1000000 from HLL.out) HZ.out.2 (by rw [HCE.out]; exact hown) hgrow hat, HO6.out.1.grow HO6.out.2 hgrow⟩); have K67 := (Keep.alloc (va.toList.map (·.block)) w6 (.cells #[.int .i64 b, .int .i64 k, .int .i64 c, .int .i64 q, .bool f, .slice la2 q lc2] 92)).trans (grown_keep hgrow); have z0 := (K67.cell (lt_of_cell2 y0) (HNV.out.1 _ HLW.out.1) 0).trans y0; have z1 := (K67.cell (lt_of_cell2 y1) (HNV.out.1 _ HLW.out.2.1) 0).trans y1; have z2 := (K67.cell (lt_of_cell2 y2) (HNV.out.1 _ HLW.out.2.2) (off + j)).trans y2; have z3 := (K67.cell (lt_of_cell2 y3) HNV.out.2 0).trans y3; have z4 := (K67.cell (lt_of_cell2 y4) HNV.out.2 1).trans y4; have z5 := (K67.cell (lt_of_cell2 y5) HNV.out.2 2).trans y5; have z6 := (K67.cell (lt_of_cell2 y6) HNV.out.2 3).trans y6; clear hown hgrow hat hltg K67))
      go_wp2_with fail
      go_roundw
      case rel => exact ⟨j + 1, _, _, _, rfl, by go_num, by omega, HADD.out.1, (by show _ = _; rw [HNX.out, List.map_append, HM.out]; rfl), HADD.out.2⟩
      case measure => simp [intOf]; omega
    · obtain rfl : j = n := by omega
      have HMM := (show Hid (vs.map RV.o = objsK kd ws) from by
        show _ = _
        rw [HM.out, List.take_of_length_le (by rw [objsK_length, HN.out]; omega)])
      have HRD := (show Hid (ObjL wr va j vs) from HO.out.read)
      go_wp2_with fail
      go_ret
      exact ⟨va, vc, vs, rfl, HRD.out, HMM.out, hKw⟩
end

end Go.Proofs.YtdpaffnpedcmpaaGreat

/-
  The program's heap beside the document's own: what is asked of both; addresses by place.
-/
namespace Go.Proofs.YtdpaffnpedcmpaaGreat
open Go.RowKit

/-- An address, or a place among objects. -/
def addrI (kd : List PK) (a : Int) : Int := if 0 < (eachK kd).length ∧ 0 ≤ a ∧ a < 64 then (eachK kd)[a.toNat % (eachK kd).length]?.getD 0 else a
theorem addrI_in {kd : List PK} (h : WF kd) (a : Int) (ha : inI a) : inI (addrI kd a) := by
  unfold addrI
  split
  · have := h.each_bd kd.length (a.toNat % (eachK kd).length)
    exact this
  · exact ha
section
variable {w0 : World} {F0 : List Nat} {mb : Nat} {ws : List Int} {kd : List PK} {ds : List (Int × List Int)}
set_option maxRecDepth 100000 in
set_option maxHeartbeats 1600000 in
theorem laddress (a : Int) (w : World) (h : Has w0 F0 (rheapA mb ws kd ds) w) (ha : inI a) :
    Calls Tryz.prog 14 #[.pointer (some ⟨mb, 0, none⟩), .int .i64 a] w fun e w' => e = .returned (.int .i64 (addrI kd a)) ∧ Keep [] w w' := by
  obtain ⟨sb, hr⟩ := h.rraw
  have hfi := h.rfine
  have HR := (show Hid (Has w0 F0 (rrawA mb sb ws kd ds) w) from hr)
  have HW := (show Hid (WF kd) from hfi.wf)
  obtain ⟨c0, _⟩ := hr.rcells
  have hnb : (eachK kd).length ≤ 32 * kd.length := hfi.wf.each_len kd.length
  have hn2 := hfi.wf.len2
  obtain ⟨n, hn⟩ : ∃ n, (eachK kd).length = n := ⟨_, rfl⟩
  have HN := (show Hid ((eachK kd).length = n) from hn)
  rw [hn] at hnb
  obtain ⟨t, ht⟩ : ∃ t, addrI kd a = t := ⟨_, rfl⟩
  have HT := (show Hid (addrI kd a = t) from ht)
  rw [ht]
  have hnl : n ≤ 8192 := by omega
  clear h hr hfi hn ht hnb hn2
  unfold inI at ha
  by_cases hc : 0 < n ∧ 0 ≤ a ∧ a < 64
  · obtain ⟨h1, h2, h3⟩ := hc
    obtain ⟨q, rfl⟩ := Int.eq_ofNat_of_zero_le h2
    obtain ⟨r, hr⟩ : ∃ r, q % n = r := ⟨_, rfl⟩
    have hrn : r < n := by rw [← hr]; exact Nat.mod_lt _ h1
    have hri : (q : Int) % (n : Int) = r := by rw [← hr]; rfl
    have hrt : (q : Int).tmod (n : Int) = r := by rw [Int.tmod_eq_emod_of_nonneg (by omega)]; exact hri
    have HTV := (show Hid ((eachK kd)[r]?.getD 0 = t) from by
      show _ = _
      rw [← HT.out]; unfold addrI
      rw [if_pos ⟨by rw [HN.out]; exact h1, by omega, by omega⟩, HN.out, Int.toNat_natCast, hr])
    have hn0 : ¬ n = 0 := by omega
    have hn0i : ¬ (n : Int) = 0 := by omega
    have hd1 : decide (0 < (n : Int)) = true := decide_eq_true (by omega)
    have hrni : (r : Int) < n := by omega
    clear hr
    go_enter Tryz.func14, Tryz.ntmps14
    go_upto_region 2 with (first | (go_at_call 44; refine (yeach _ HR.out HW.out).mono ?_; rw [HN.out]; rintro e w1 ⟨la, lc, rfl, hIn, hK1⟩))
    obtain ⟨p, off, rfl, hps, hcell⟩ := hIn.cells (by rw [HN.out]; exact h1)
    have hx := hcell r (by rw [HN.out]; exact hrn)
    rw [HTV.out] at hx
    clear hcell hIn
    go_wp2_with fail
    go_ret
    exact ⟨rfl, hK1⟩
  · have HTV : t = a := by
      rw [← HT.out]; unfold addrI
      rw [if_neg (by rw [HN.out]; exact hc)]
    subst HTV
    clear HT
    by_cases h1 : 0 < n
    · have hd1 : decide (0 < (n : Int)) = true := decide_eq_true (by omega)
      by_cases h2 : t < 0
      · have hd2 : decide (0 ≤ t) = false := decide_eq_false (by omega)
        clear hc
        go_enter Tryz.func14, Tryz.ntmps14
        go_wp2_with (first | (go_at_call 44; refine (yeach _ HR.out HW.out).mono ?_; rw [HN.out]; rintro e w1 ⟨la, lc, rfl, hIn, hK1⟩; clear hIn))
        go_ret
        exact ⟨rfl, hK1⟩
      · have hd2 : decide (0 ≤ t) = true := decide_eq_true (by omega)
        have hd3 : decide (t < 64) = false := decide_eq_false (by omega)
        clear hc
        go_enter Tryz.func14, Tryz.ntmps14
        go_wp2_with (first | (go_at_call 44; refine (yeach _ HR.out HW.out).mono ?_; rw [HN.out]; rintro e w1 ⟨la, lc, rfl, hIn, hK1⟩; clear hIn))
        go_ret
        exact ⟨rfl, hK1⟩
    · obtain rfl : n = 0 := by omega
      clear hc
      go_enter Tryz.func14, Tryz.ntmps14
      go_wp2_with (first | (go_at_call 44; refine (yeach _ HR.out HW.out).mono ?_; rw [HN.out]; rintro e w1 ⟨la, lc, rfl, hIn, hK1⟩; clear hIn))
      go_ret
      exact ⟨rfl, hK1⟩
end

/-! ### What is asked through the heaps, told where their parts lie -/
section
variable {w0 : World} {F0 : List Nat} {hb : Nat} {ws : List Int} {kd : List PK} {ds : List (Int × List Int)}
theorem oadd2 (tb : Nat) (f : Int) (ao : Option Addr) (n c : Nat) (L : List Int) (w : World) (h : Has w0 F0 (heapA hb ws kd ds) w) (ht : w.cell? ⟨hb, 1, none⟩ = some (.pointer (some ⟨tb, 0, none⟩))) (hA : IntsAt w ao L) (hc : ao = none → c = 0) (hn : L.length = n) (hbd : n ≤ 1000000) :
    Calls Tryz.prog 16 #[.pointer (some ⟨tb, 0, none⟩), .agg #[.int .i64 f, .slice ao n c]] w fun e w' => (e = .returned (.tuple #[.int .i64 (addN ds f L), .int .i64 (addE ds f L)]) ∧ w'.cell? ⟨hb, 1, none⟩ = some (.pointer (some ⟨tb, 0, none⟩))) ∧ Has w0 F0 (heapA hb ws kd (addR ds f L)) w' := by
  obtain ⟨sb, tb', hr⟩ := h.raw
  have e := hr.cells.2.1
  rw [ht] at e
  obtain rfl := ptr_eq e
  refine (xadd w f ao n c L hr hA hc hn hbd).mono ?_
  rintro e w' ⟨rfl, hX⟩
  exact ⟨⟨rfl, hX.cells.2.1⟩, hX.heap (h.fine.add f L)⟩
theorem ofree2 (sb : Nat) (a E : Int) (kd' : List PK) (w : World) (h : Has w0 F0 (heapA hb ws kd ds) w) (ht : w.cell? ⟨hb, 0, none⟩ = some (.pointer (some ⟨sb, 0, none⟩))) (hr : FreeT kd a E kd') :
    Calls Tryz.prog 22 #[.pointer (some ⟨sb, 0, none⟩), .int .i64 a] w fun e w' => (e = .returned (.int .i64 E) ∧ w'.cell? ⟨hb, 0, none⟩ = some (.pointer (some ⟨sb, 0, none⟩))) ∧ Has w0 F0 (heapA hb ws kd' ds) w' := by
  obtain ⟨sb', tb, hx⟩ := h.raw
  have e := hx.cells.1
  rw [ht] at e
  obtain rfl := ptr_eq e
  refine (xfree w a E kd' hx h.fine.wf hr).mono ?_
  rintro e w' ⟨rfl, hX⟩
  exact ⟨⟨rfl, hX.cells.1⟩, hX.heap (hr.fine h.fine)⟩
theorem Has.rptr {w : World} (h : Has w0 F0 (rheapA hb ws kd ds) w) : ∃ mb, w.cell? ⟨hb, 0, none⟩ = some (.pointer (some ⟨mb, 0, none⟩)) := by
  obtain ⟨mb, hr⟩ := h.rraw
  exact ⟨mb, hr.rcells.1⟩
theorem rfree2 (mb : Nat) (a E : Int) (kd' : List PK) (w : World) (h : Has w0 F0 (rheapA hb ws kd ds) w) (ht : w.cell? ⟨hb, 0, none⟩ = some (.pointer (some ⟨mb, 0, none⟩))) (hr : FreeT kd a E kd') :
    Calls Tryz.prog 23 #[.pointer (some ⟨mb, 0, none⟩), .int .i64 a] w fun e w' => (e = .returned (.int .i64 E) ∧ w'.cell? ⟨hb, 0, none⟩ = some (.pointer (some ⟨mb, 0, none⟩))) ∧ Has w0 F0 (rheapA hb ws kd' ds) w' := by
  obtain ⟨mb', hx⟩ := h.rraw
  have e := hx.rcells.1
  rw [ht] at e
  obtain rfl := ptr_eq e
  refine (yfree w a E kd' hx h.rfine.wf hr).mono ?_
  rintro e w' ⟨rfl, hX⟩
  exact ⟨⟨rfl, hX.rcells.1⟩, hX.rheap (hr.fine h.rfine)⟩
theorem rused2 (mb : Nat) (w : World) (h : Has w0 F0 (rheapA hb ws kd ds) w) (ht : w.cell? ⟨hb, 0, none⟩ = some (.pointer (some ⟨mb, 0, none⟩))) :
    Calls Tryz.prog 34 #[.pointer (some ⟨mb, 0, none⟩)] w fun e w' => e = .returned (.int .i64 (usedK kd)) ∧ Keep [] w w' := by
  obtain ⟨mb', hx⟩ := h.rraw
  have e := hx.rcells.1
  rw [ht] at e
  obtain rfl := ptr_eq e
  exact yused w hx h.rfine.wf
end
theorem refsT_len {w0 w : World} {F0 : List Nat} {hb : Nat} {ws : List Int} {kd : List PK} {ds : List (Int × List Int)} {a : Int} {L : List Int} (h : Has w0 F0 (heapA hb ws kd ds) w) (hT : RefsT kd ws ds a L) : L.length ≤ 1000000 := by
  cases hT with
  | none _ => simp
  | data _ _ _ _ _ _ => simp
  | ref _ _ _ _ _ _ => simp
  | refs b m c l f hA => rw [upL_length]; have := hA.2.2.bd; omega
  | plain b m i c l f L hA e hi =>
    obtain ⟨sb, tb, hr⟩ := h.raw
    obtain ⟨F, va, vc, cs, hT, rfl⟩ := hr.tab
    rw [List.getElem?_map] at hi
    cases hc : cs[i]? with
    | none => rw [hc] at hi; cases hi
    | some v =>
      rw [hc] at hi
      simp [CV.d] at hi
      rw [← hi.2]
      exact (hT.each i v hc).2.2.1
theorem objs_ok {ws : List Int} {kd : List PK} {ds : List (Int × List Int)} {vs : List OV} (h : Fine ws kd ds) (hv : vs.map OV.o = objsK kd ws) : ∀ v, v ∈ vs → (∀ i : Nat, inI (v.o.L[i]?.getD 0)) ∧ v.o.L.length ≤ 1000000 := by
  intro v hm
  have h1 : v.o ∈ objsK kd ws := by rw [← hv]; exact List.mem_map_of_mem hm
  unfold objsK at h1
  rw [List.mem_map] at h1
  obtain ⟨a, ha, e⟩ := h1
  obtain ⟨b, n, rfl, _, _, hf⟩ := h.wf.each_in kd.length a ha
  obtain ⟨k, c, l, f, w1, w2, _⟩ := h.ob.head b n hf
  obtain ⟨_, _, p1, p2, p3, p4⟩ := w1.parts
  have hb := w1.bd
  rw [← e]
  unfold objOf
  simp only [Int.toNat_natCast]
  refine ⟨wordsL_bd h.ob.bd _ _, ?_⟩
  rw [wordsL_length, p3]
  omega
theorem duo_raw {w0 w : World} {F0 : List Nat} {hb mb : Nat} {ws us : List Int} {kd jd : List PK} {ds es : List (Int × List Int)} {B : Asn} (h : Has w0 F0 (((heapA hb ws kd ds).star (rheapA mb us jd es)).star B) w) : ∃ sb tb sm, Has w0 F0 (((rawA hb sb tb ws kd ds).star (rrawA mb sm us jd es)).star B) w := by
  obtain ⟨F, ⟨F1, F2, hF, ⟨F3, F4, hF', ⟨⟨sb, tb, h1⟩, _⟩, ⟨⟨sm, h2⟩, _⟩, hd'⟩, h3, hd⟩, u⟩ := h
  exact ⟨sb, tb, sm, F, ⟨F1, F2, hF, ⟨F3, F4, hF', h1, h2, hd'⟩, h3, hd⟩, u⟩
theorem duo_heap {w0 w : World} {F0 : List Nat} {hb mb sb tb sm : Nat} {ws : List Int} {kd : List PK} {ds : List (Int × List Int)} {B : Asn} (h : Has w0 F0 (((rawA hb sb tb ws kd ds).star (rrawA mb sm ws kd ds)).star B) w) (hf : Fine ws kd ds) : Has w0 F0 (((heapA hb ws kd ds).star (rheapA mb ws kd ds)).star B) w := by
  obtain ⟨F, ⟨F1, F2, hF, ⟨F3, F4, hF', h1, h2, hd'⟩, h3, hd⟩, u⟩ := h
  exact ⟨F, ⟨F1, F2, hF, ⟨F3, F4, hF', ⟨⟨sb, tb, h1⟩, hf⟩, ⟨⟨sm, h2⟩, hf⟩, hd'⟩, h3, hd⟩, u⟩
theorem ten_cells {w : World} {b : Nat} {t : TypeId} {a0 a1 a2 a3 a4 a5 a6 a7 a8 a9 : Value} (h : w.heap[b]? = some (.cells #[a0, a1, a2, a3, a4, a5, a6, a7, a8, a9] t (0, 0))) :
    w.cell? ⟨b, 0, none⟩ = some a0 ∧ w.cell? ⟨b, 1, none⟩ = some a1 ∧ w.cell? ⟨b, 2, none⟩ = some a2 ∧ w.cell? ⟨b, 3, none⟩ = some a3 ∧ w.cell? ⟨b, 4, none⟩ = some a4 ∧ w.cell? ⟨b, 5, none⟩ = some a5 ∧ w.cell? ⟨b, 6, none⟩ = some a6 ∧ w.cell? ⟨b, 7, none⟩ = some a7 ∧ w.cell? ⟨b, 8, none⟩ = some a8 ∧ w.cell? ⟨b, 9, none⟩ = some a9 := by
  refine ⟨?_, ?_, ?_, ?_, ?_, ?_, ?_, ?_, ?_, ?_⟩ <;> simp [World.cell?, h]

/-- Something asked of a heap, in memory. -/
structure AV where
  d : Int
  k : Int
  c : Int
  l : Int
  f : Bool
  cf : Int
  ca : Option Addr
  cc : Nat
  cL : List Int
  a : Int
  i : Int
  x : Int
def AV.cells (v : AV) : List Value := [.int .i64 v.d, .int .i64 v.k, .int .i64 v.c, .int .i64 v.l, .bool v.f, .int .i64 v.cf, .slice v.ca v.cL.length v.cc, .int .i64 v.a, .int .i64 v.i, .int .i64 v.x]
structure AV.ok (w : World) (v : AV) : Prop where
  d : inI v.d
  k : inI v.k
  c : inI v.c
  l : inI v.l
  cf : inI v.cf
  a : inI v.a
  i : inI v.i
  x : inI v.x
  cap : v.ca = none → v.cc = 0
  ints : IntsAt w v.ca v.cL
/-- A list of what is asked: n in all, the first N of it are met. -/
structure AskAt (w : World) (ao : Option Addr) (n N : Nat) (A : Nat → AV) : Prop where
  cells : 0 < N → ∃ b off, ao = some ⟨b, off, none⟩ ∧ b < w.heap.size ∧ ∀ i t, i < N → t < 10 → w.cell? ⟨b, off + (i * 10 + t), none⟩ = (A i).cells[t]?
  ok : ∀ i, i < N → (A i).ok w ∧ (A i).cL.length ≤ 1000000
  few : N ≤ n ∧ N ≤ 60 ∧ (N = n ∨ N = 60)

end Go.Proofs.YtdpaffnpedcmpaaGreat

/-
  The same is asked of both heaps: they answer the same.
-/
namespace Go.Proofs.YtdpaffnpedcmpaaGreat
open Go.RowKit

set_option maxRecDepth 100000 in
set_option maxHeartbeats 12800000 in
set_option linter.unusedSimpArgs false in
theorem runs_any (ao : Option Addr) (n cp N P : Nat) (A : Nat → AV) (w : World) (hA : AskAt w ao n N A) (h1 : 1 ≤ P) (h2 : P ≤ 256) (_hn : n ≤ 9223372036854775807) :
    Calls Tryz.prog 6 #[.int .i64 P, .slice ao n cp] w fun e w' => e = .returned (.bool true) ∧ Keep [] w w' := by
  have HA := (show Hid (AskAt w ao n N A) from hA)
  obtain ⟨hNn, hN6, hNor⟩ := hA.few
  have HNO := (show Hid (N = n ∨ N = 60) from hNor)
  clear hA hNor
  go_enter Tryz.func6, Tryz.ntmps6
  go_wp2_with (first | (go_at_call 8; refine (onew_has P _ h1 h2).mono ?_; rintro e w1 ⟨hb, rfl, hH⟩; have HH := (show Hid (Has w [] (heapA hb (zeros (64 * P)) (freshK P) []) w1) from hH); clear hH) | (go_at_call 9; refine (owhole _ HH.out).mono ?_; rintro e w' ⟨rfl, rfl⟩) | (go_at_call 10; refine (err_any _ _).mono ?_; rintro e w' ⟨rfl, rfl⟩) | (go_at_call 13; refine (rnewheap P HH.out h1 h2).mono ?_; rintro e w2 ⟨mb, rfl, hH2⟩; have HH2 := (show Hid (Has w [] ((heapA hb (zeros (64 * P)) (freshK P) []).star (rheapA mb (zeros (64 * P)) (freshK P) [])) w2) from hH2); clear hH2))
  go_loopw [8] (fun i wr => ∃ (j : Nat) (ws : List Int) (kd : List PK) (ds : List (Int × List Int)), i = .int .i64 j ∧ j ≤ N ∧ Hid (Has w [] ((heapA hb ws kd ds).star (rheapA mb ws kd ds)) wr)) (fun i _ => N - (intOf i).toNat)
  case atStart => exact ⟨0, _, _, _, rfl, by omega, HH2⟩
  case round =>
    clear HH HH2
    obtain ⟨j, ws, kd, ds, rfl, hj, HR⟩ := hrel
    obtain ⟨w3, rfl⟩ : ∃ w3, w3 = wr := ⟨_, rfl⟩
    have hKw := HR.out.K
    by_cases hlt : j < N
    · obtain ⟨b, off, rfl, hbs, hcell⟩ := HA.out.cells (by omega)
      have hok := HA.out.ok j hlt
      have hc : ∀ t, t < 10 → w3.cell? ⟨b, off + (j * 10 + t), none⟩ = (A j).cells[t]? := fun t ht => (hKw.cell hbs (by simp) _).trans (hcell j t hlt ht)
      generalize A j = v at hok hc
      obtain ⟨d, k, c, l, f, cf, ca, cc, cL, a, i, x⟩ := v
      obtain ⟨⟨o1, o2, o3, o4, o5, o6, o7, o8, o9, o10⟩, o11⟩ := hok
      simp only at o1 o2 o3 o4 o5 o6 o7 o8 o9 o10 o11
      have y0 := hc 0 (by omega)
      have y1 := hc 1 (by omega)
      have y2 := hc 2 (by omega)
      have y3 := hc 3 (by omega)
      have y4 := hc 4 (by omega)
      have y5 := hc 5 (by omega)
      have y6 := hc 6 (by omega)
      have y7 := hc 7 (by omega)
      have y8 := hc 8 (by omega)
      have y9 := hc 9 (by omega)
      simp only [AV.cells, Nat.add_zero, List.getElem?_cons_zero, List.getElem?_cons_succ, ← Nat.add_assoc] at y0 y1 y2 y3 y4 y5 y6 y7 y8 y9
      obtain ⟨m, hm⟩ : ∃ m, cL.length = m := ⟨_, rfl⟩
      have HCL := (show Hid (cL.length = m ∧ IntsAt w ca cL ∧ (ca = none → cc = 0)) from ⟨hm, o10, o9⟩)
      rw [hm] at y6 o11
      have hjn : j < n := by omega
      have hj6 : j < 60 := by omega
      clear hcell hc hm o10 o9
      unfold inI at o1 o2 o3 o4 o5 o6 o7 o8
      go_upto_region 9 with fail
      have HR1 := (show Hid (Has w [] (((heapA hb ws kd ds).star (rheapA mb ws kd ds)).star (blockA w3.heap.size (.cells #[.int .i64 d, .int .i64 k, .int .i64 c, .int .i64 l, .bool f, .int .i64 cf, .slice ca m cc, .int .i64 a, .int .i64 i, .int .i64 x] 29))) (w3.alloc (.cells #[.int .i64 d, .int .i64 k, .int .i64 c, .int .i64 l, .bool f, .int .i64 cf, .slice ca m cc, .int .i64 a, .int .i64 i, .int .i64 x] 29))) from HR.out.moreBlock _)
      generalize w3.alloc (.cells #[.int .i64 d, .int .i64 k, .int .i64 c, .int .i64 l, .bool f, .int .i64 cf, .slice ca m cc, .int .i64 a, .int .i64 i, .int .i64 x] 29) = w4 at *
      generalize w3.heap.size = bx at *
      clear y0 y1 y2 y3 y4 y5 y6 y7 y8 y9 HR hKw hbs
      obtain ⟨g0, g1, g2, g3, g4, g5, g6, g7, g8, g9⟩ := ten_cells HR1.out.blk
      obtain ⟨t, ht⟩ : ∃ t, addrI kd a = t := ⟨_, rfl⟩
      have HT := (show Hid (addrI kd a = t) from ht)
      have hti := addrI_in HR1.out.fst.fst.fine.wf a o6
      rw [ht] at hti
      unfold inI at hti
      clear ht
      go_upto_block 2 with (first | (go_at_call 14; refine (laddress a _ HR1.out.fst.snd o6).mono ?_; rw [HT.out]; rintro e w5 ⟨rfl, hK5⟩; have HR5 := (show Hid (Has w [] (((heapA hb ws kd ds).star (rheapA mb ws kd ds)).star (blockA bx (.cells #[.int .i64 d, .int .i64 k, .int .i64 c, .int .i64 l, .bool f, .int .i64 cf, .slice ca m cc, .int .i64 a, .int .i64 i, .int .i64 x] 29))) w5) from HR1.out.keep0 hK5); obtain ⟨p0, p1, p2, p3, p4, p5, p6, p7, p8, p9⟩ := ten_cells HR5.out.blk; clear hK5))
      go_cut [11, 12, 13, 14, 15, 16] from 38 to 222 (fun _ _ _ _ _ _ wz => ∃ (ws : List Int) (kd : List PK) (ds : List (Int × List Int)), Hid (Has w [] (((heapA hb ws kd ds).star (rheapA mb ws kd ds)).star (blockA bx (.cells #[.int .i64 d, .int .i64 k, .int .i64 c, .int .i64 l, .bool f, .int .i64 cf, .slice ca m cc, .int .i64 a, .int .i64 i, .int .i64 x] 29))) wz))
      case first =>
        clear HR1 g0 g1 g2 g3 g4 g5 g6 g7 g8 g9 HA
        have hfi := HR5.out.fst.fst.fine
        have HF := (show Hid (Fine ws kd ds) from hfi)
        clear hfi
        by_cases hd : 0 ≤ d ∧ d ≤ 7
        · rcases (show d = 6 ∨ d = 0 ∨ d = 1 ∨ d = 2 ∨ d = 3 ∨ d = 4 ∨ d = 5 ∨ d = 7 by omega) with h | h | h | h | h | h | h | h
          · as_aux_lemma =>
              have e0 : (d == 0) = false := by rw [h]; rfl
              have e1 : (d == 1) = false := by rw [h]; rfl
              have e2 : (d == 2) = false := by rw [h]; rfl
              have e3 : (d == 3) = false := by rw [h]; rfl
              have e4 : (d == 4) = false := by rw [h]; rfl
              have e5 : (d == 5) = false := by rw [h]; rfl
              have e6 : (d == 6) = true := by rw [h]; rfl
              have e7 : (d == 7) = false := by rw [h]; rfl
              clear h hd
              obtain ⟨E, ws', hF⟩ := finalT_ex HF.out.ob t
              have HFT := (show Hid (FinalT kd ws t E ws') from hF)
              clear hF
              go_wp2_with (first | (go_at_call 20; refine (has_left HR5.out (fun F h => has_left h (fun F h => ofinal t E ws' _ h HFT.out))).mono ?_; rintro e w6 ⟨rfl, hH6⟩; have HH6 := (show Hid (Has w [] (((heapA hb ws' kd ds).star (rheapA mb ws kd ds)).star (blockA bx (.cells #[.int .i64 d, .int .i64 k, .int .i64 c, .int .i64 l, .bool f, .int .i64 cf, .slice ca m cc, .int .i64 a, .int .i64 i, .int .i64 x] 29))) w6) from hH6); obtain ⟨z0, z1, z2, z3, z4, z5, z6, z7, z8, z9⟩ := ten_cells hH6.blk; clear hH6) | (go_at_call 21; refine (has_left HH6.out (fun F h => has_right h (fun F h => rfinal t E ws' _ h HFT.out))).mono ?_; rintro e w7 ⟨rfl, hH7⟩; have HH7 := (show Hid (Has w [] (((heapA hb ws' kd ds).star (rheapA mb ws' kd ds)).star (blockA bx (.cells #[.int .i64 d, .int .i64 k, .int .i64 c, .int .i64 l, .bool f, .int .i64 cf, .slice ca m cc, .int .i64 a, .int .i64 i, .int .i64 x] 29))) w7) from hH7); clear hH7) | (go_at_call 10; refine (err_any _ _).mono ?_; rintro e w' ⟨rfl, rfl⟩))
              go_meet
              exact ⟨ws', kd, ds, HH7⟩
          · as_aux_lemma =>
              have e0 : (d == 0) = true := by rw [h]; rfl
              have e1 : (d == 1) = false := by rw [h]; rfl
              have e2 : (d == 2) = false := by rw [h]; rfl
              have e3 : (d == 3) = false := by rw [h]; rfl
              have e4 : (d == 4) = false := by rw [h]; rfl
              have e5 : (d == 5) = false := by rw [h]; rfl
              have e6 : (d == 6) = false := by rw [h]; rfl
              have e7 : (d == 7) = false := by rw [h]; rfl
              clear h hd
              obtain ⟨N1, E, ws', kd', hF⟩ := makeT_ex ws ds k c l f HF.out.wf
              have HFT := (show Hid (MakeT kd ws ds k c l f N1 E ws' kd') from hF)
              clear hF
              go_upto_region 16 with (first | (go_at_call 11; refine (has_left HR5.out (fun F h => has_left h (fun F h => omake k c l N1 E f ws' kd' _ h HFT.out))).mono ?_; rintro e w6 ⟨rfl, hH6⟩; have HH6 := (show Hid (Has w [] (((heapA hb ws' kd' ds).star (rheapA mb ws kd ds)).star (blockA bx (.cells #[.int .i64 d, .int .i64 k, .int .i64 c, .int .i64 l, .bool f, .int .i64 cf, .slice ca m cc, .int .i64 a, .int .i64 i, .int .i64 x] 29))) w6) from hH6); obtain ⟨z0, z1, z2, z3, z4, z5, z6, z7, z8, z9⟩ := ten_cells hH6.blk; clear hH6) | (go_at_call 15; refine (has_left HH6.out (fun F h => has_right h (fun F h => rmake k c l N1 E f ws' kd' _ h HFT.out))).mono ?_; rintro e w7 ⟨rfl, hH7⟩; have HH7 := (show Hid (Has w [] (((heapA hb ws' kd' ds).star (rheapA mb ws' kd' ds)).star (blockA bx (.cells #[.int .i64 d, .int .i64 k, .int .i64 c, .int .i64 l, .bool f, .int .i64 cf, .slice ca m cc, .int .i64 a, .int .i64 i, .int .i64 x] 29))) w7) from hH7); clear hH7) | (go_at_call 10; refine (err_any _ _).mono ?_; rintro e w' ⟨rfl, rfl⟩))
              have hy := heap_alloc_new w7 (.cells #[.int .i64 N1, .int .i64 E] 50)
              obtain ⟨q0, q1⟩ := two_cells hy
              have HH8 := (show Hid (Has w [] (((heapA hb ws' kd' ds).star (rheapA mb ws' kd' ds)).star (blockA bx (.cells #[.int .i64 d, .int .i64 k, .int .i64 c, .int .i64 l, .bool f, .int .i64 cf, .slice ca m cc, .int .i64 a, .int .i64 i, .int .i64 x] 29))) (w7.alloc (.cells #[.int .i64 N1, .int .i64 E] 50))) from HH7.out.keep0 (Keep.alloc [] _ _))
              clear hy
              generalize w7.alloc (.cells #[.int .i64 N1, .int .i64 E] 50) = w8 at *
              generalize w7.heap.size = b8 at *
              go_quiet (first | (go_at_call 10; exact Calls.quiet_of_same ((err_any _ _).mono (by rintro e w' ⟨rfl, rfl⟩; exact ⟨rfl, rfl⟩))))
              have HH9 := (show Hid (Has w [] (((heapA hb ws' kd' ds).star (rheapA mb ws' kd' ds)).star (blockA bx (.cells #[.int .i64 d, .int .i64 k, .int .i64 c, .int .i64 l, .bool f, .int .i64 cf, .slice ca m cc, .int .i64 a, .int .i64 i, .int .i64 x] 29))) (w8.drewN nq)) from HH8.out.keep0 (Keep.drewN [] _ _))
              go_wp2_with fail
              go_meet
              exact ⟨ws', kd', ds, HH9⟩
          · as_aux_lemma =>
              have e0 : (d == 0) = false := by rw [h]; rfl
              have e1 : (d == 1) = true := by rw [h]; rfl
              have e2 : (d == 2) = false := by rw [h]; rfl
              have e3 : (d == 3) = false := by rw [h]; rfl
              have e4 : (d == 4) = false := by rw [h]; rfl
              have e5 : (d == 5) = false := by rw [h]; rfl
              have e6 : (d == 6) = false := by rw [h]; rfl
              have e7 : (d == 7) = false := by rw [h]; rfl
              clear h hd
              obtain ⟨N1, E, ws', kd', hF⟩ := makeT_ex ws ds k c l f HF.out.wf
              have HFT := (show Hid (MakeT kd ws ds k c l f N1 E ws' kd') from hF)
              clear hF
              go_upto_region 16 with (first | (go_at_call 11; refine (has_left HR5.out (fun F h => has_left h (fun F h => omake k c l N1 E f ws' kd' _ h HFT.out))).mono ?_; rintro e w6 ⟨rfl, hH6⟩; have HH6 := (show Hid (Has w [] (((heapA hb ws' kd' ds).star (rheapA mb ws kd ds)).star (blockA bx (.cells #[.int .i64 d, .int .i64 k, .int .i64 c, .int .i64 l, .bool f, .int .i64 cf, .slice ca m cc, .int .i64 a, .int .i64 i, .int .i64 x] 29))) w6) from hH6); obtain ⟨z0, z1, z2, z3, z4, z5, z6, z7, z8, z9⟩ := ten_cells hH6.blk; clear hH6) | (go_at_call 15; refine (has_left HH6.out (fun F h => has_right h (fun F h => rmake k c l N1 E f ws' kd' _ h HFT.out))).mono ?_; rintro e w7 ⟨rfl, hH7⟩; have HH7 := (show Hid (Has w [] (((heapA hb ws' kd' ds).star (rheapA mb ws' kd' ds)).star (blockA bx (.cells #[.int .i64 d, .int .i64 k, .int .i64 c, .int .i64 l, .bool f, .int .i64 cf, .slice ca m cc, .int .i64 a, .int .i64 i, .int .i64 x] 29))) w7) from hH7); clear hH7) | (go_at_call 10; refine (err_any _ _).mono ?_; rintro e w' ⟨rfl, rfl⟩))
              have hy := heap_alloc_new w7 (.cells #[.int .i64 N1, .int .i64 E] 50)
              obtain ⟨q0, q1⟩ := two_cells hy
              have HH8 := (show Hid (Has w [] (((heapA hb ws' kd' ds).star (rheapA mb ws' kd' ds)).star (blockA bx (.cells #[.int .i64 d, .int .i64 k, .int .i64 c, .int .i64 l, .bool f, .int .i64 cf, .slice ca m cc, .int .i64 a, .int .i64 i, .int .i64 x] 29))) (w7.alloc (.cells #[.int .i64 N1, .int .i64 E] 50))) from HH7.out.keep0 (Keep.alloc [] _ _))
              clear hy
              generalize w7.alloc (.cells #[.int .i64 N1, .int .i64 E] 50) = w8 at *
              generalize w7.heap.size = b8 at *
              go_quiet (first | (go_at_call 10; exact Calls.quiet_of_same ((err_any _ _).mono (by rintro e w' ⟨rfl, rfl⟩; exact ⟨rfl, rfl⟩))))
              have HH9 := (show Hid (Has w [] (((heapA hb ws' kd' ds).star (rheapA mb ws' kd' ds)).star (blockA bx (.cells #[.int .i64 d, .int .i64 k, .int .i64 c, .int .i64 l, .bool f, .int .i64 cf, .slice ca m cc, .int .i64 a, .int .i64 i, .int .i64 x] 29))) (w8.drewN nq)) from HH8.out.keep0 (Keep.drewN [] _ _))
              go_wp2_with fail
              go_meet
              exact ⟨ws', kd', ds, HH9⟩
          · as_aux_lemma =>
              have e0 : (d == 0) = false := by rw [h]; rfl
              have e1 : (d == 1) = false := by rw [h]; rfl
              have e2 : (d == 2) = true := by rw [h]; rfl
              have e3 : (d == 3) = false := by rw [h]; rfl
              have e4 : (d == 4) = false := by rw [h]; rfl
              have e5 : (d == 5) = false := by rw [h]; rfl
              have e6 : (d == 6) = false := by rw [h]; rfl
              have e7 : (d == 7) = false := by rw [h]; rfl
              clear h hd
              obtain ⟨N1, E, ws', kd', hF⟩ := makeT_ex ws ds k c l f HF.out.wf
              have HFT := (show Hid (MakeT kd ws ds k c l f N1 E ws' kd') from hF)
              clear hF
              go_upto_region 16 with (first | (go_at_call 11; refine (has_left HR5.out (fun F h => has_left h (fun F h => omake k c l N1 E f ws' kd' _ h HFT.out))).mono ?_; rintro e w6 ⟨rfl, hH6⟩; have HH6 := (show Hid (Has w [] (((heapA hb ws' kd' ds).star (rheapA mb ws kd ds)).star (blockA bx (.cells #[.int .i64 d, .int .i64 k, .int .i64 c, .int .i64 l, .bool f, .int .i64 cf, .slice ca m cc, .int .i64 a, .int .i64 i, .int .i64 x] 29))) w6) from hH6); obtain ⟨z0, z1, z2, z3, z4, z5, z6, z7, z8, z9⟩ := ten_cells hH6.blk; clear hH6) | (go_at_call 15; refine (has_left HH6.out (fun F h => has_right h (fun F h => rmake k c l N1 E f ws' kd' _ h HFT.out))).mono ?_; rintro e w7 ⟨rfl, hH7⟩; have HH7 := (show Hid (Has w [] (((heapA hb ws' kd' ds).star (rheapA mb ws' kd' ds)).star (blockA bx (.cells #[.int .i64 d, .int .i64 k, .int .i64 c, .int .i64 l, .bool f, .int .i64 cf, .slice ca m cc, .int .i64 a, .int .i64 i, .int .i64 x] 29))) w7) from hH7); clear hH7) | (go_at_call 10; refine (err_any _ _).mono ?_; rintro e w' ⟨rfl, rfl⟩))
              have hy := heap_alloc_new w7 (.cells #[.int .i64 N1, .int .i64 E] 50)
              obtain ⟨q0, q1⟩ := two_cells hy
              have HH8 := (show Hid (Has w [] (((heapA hb ws' kd' ds).star (rheapA mb ws' kd' ds)).star (blockA bx (.cells #[.int .i64 d, .int .i64 k, .int .i64 c, .int .i64 l, .bool f, .int .i64 cf, .slice ca m cc, .int .i64 a, .int .i64 i, .int .i64 x] 29))) (w7.alloc (.cells #[.int .i64 N1, .int .i64 E] 50))) from HH7.out.keep0 (Keep.alloc [] _ _))
              clear hy
              generalize w7.alloc (.cells #[.int .i64 N1, .int .i64 E] 50) = w8 at *
              generalize w7.heap.size = b8 at *
              go_quiet (first | (go_at_call 10; exact Calls.quiet_of_same ((err_any _ _).mono (by rintro e w' ⟨rfl, rfl⟩; exact ⟨rfl, rfl⟩))))
              have HH9 := (show Hid (Has w [] (((heapA hb ws' kd' ds).star (rheapA mb ws' kd' ds)).star (blockA bx (.cells #[.int .i64 d, .int .i64 k, .int .i64 c, .int .i64 l, .bool f, .int .i64 cf, .slice ca m cc, .int .i64 a, .int .i64 i, .int .i64 x] 29))) (w8.drewN nq)) from HH8.out.keep0 (Keep.drewN [] _ _))
              go_wp2_with fail
              go_meet
              exact ⟨ws', kd', ds, HH9⟩
          · as_aux_lemma =>
              have e0 : (d == 0) = false := by rw [h]; rfl
              have e1 : (d == 1) = false := by rw [h]; rfl
              have e2 : (d == 2) = false := by rw [h]; rfl
              have e3 : (d == 3) = true := by rw [h]; rfl
              have e4 : (d == 4) = false := by rw [h]; rfl
              have e5 : (d == 5) = false := by rw [h]; rfl
              have e6 : (d == 6) = false := by rw [h]; rfl
              have e7 : (d == 7) = false := by rw [h]; rfl
              clear h hd
              obtain ⟨N1, hN1⟩ : ∃ N1, addN ds cf cL = N1 := ⟨_, rfl⟩
              obtain ⟨E, hE⟩ : ∃ E, addE ds cf cL = E := ⟨_, rfl⟩
              obtain ⟨ds', hds⟩ : ∃ ds', addR ds cf cL = ds' := ⟨_, rfl⟩
              have HAD := (show Hid (addN ds cf cL = N1 ∧ addE ds cf cL = E ∧ addR ds cf cL = ds') from ⟨hN1, hE, hds⟩)
              obtain ⟨sb, tb, _, c1⟩ := HR5.out.fst.fst.ptrs
              have HRD := (show Hid (Has w [] (((heapA hb ws kd ds).star (rheapA mb ws kd ds)).star (blockA bx (.cells #[.int .i64 d, .int .i64 k, .int .i64 c, .int .i64 l, .bool f, .int .i64 cf, .slice ca m cc, .int .i64 a, .int .i64 i, .int .i64 x] 29))) w5.drew) from HR5.out.keep0 (Keep.drew [] _))
              have HIN := (show Hid (∀ wz, Has w [] (((heapA hb ws kd ds).star (rheapA mb ws kd ds)).star (blockA bx (.cells #[.int .i64 d, .int .i64 k, .int .i64 c, .int .i64 l, .bool f, .int .i64 cf, .slice ca m cc, .int .i64 a, .int .i64 i, .int .i64 x] 29))) wz → IntsAt wz ca cL) from fun wz h => HCL.out.2.1.keep h.K (fun _ _ _ => by simp))
              have d1 := ((Keep.drew [] w5).cell (lt_of_cell2 c1) (by simp) 1).trans c1
              clear hN1 hE hds
              go_upto_region 19 with fail
              go_cut [14, 15] from 38 to 222 (fun v14 v15 wz => v14 = .int .i64 N1 ∧ v15 = .int .i64 E ∧ Hid (Has w [] (((heapA hb ws kd ds').star (rheapA mb ws kd ds)).star (blockA bx (.cells #[.int .i64 d, .int .i64 k, .int .i64 c, .int .i64 l, .bool f, .int .i64 cf, .slice ca m cc, .int .i64 a, .int .i64 i, .int .i64 x] 29))) wz))
              case first =>
                go_region_held3 (fun wz => wz.cell? ⟨hb, 1, none⟩ = some (.pointer (some ⟨tb, 0, none⟩)) ∧ wz.cell? ⟨bx, 5, none⟩ = some (.int .i64 cf) ∧ wz.cell? ⟨bx, 6, none⟩ = some (.slice ca m cc)) (go_keep) (first | (go_at_call 16; refine (has_left HRD.out (fun F h => has_left h (fun F h => oadd2 tb cf ca m cc cL _ h d1 (HIN.out _ HRD.out) HCL.out.2.2 HCL.out.1 o11))).mono ?_; rw [HAD.out.1, HAD.out.2.1, HAD.out.2.2]; rintro e w6 ⟨⟨rfl, r1⟩, hH6⟩; have HH6 := (show Hid (Has w [] (((heapA hb ws kd ds').star (rheapA mb ws kd ds)).star (blockA bx (.cells #[.int .i64 d, .int .i64 k, .int .i64 c, .int .i64 l, .bool f, .int .i64 cf, .slice ca m cc, .int .i64 a, .int .i64 i, .int .i64 x] 29))) w6) from hH6); obtain ⟨z0, z1, z2, z3, z4, z5, z6, z7, z8, z9⟩ := ten_cells hH6.blk; clear hH6))
                go_wp2_with fail
                go_meet
                exact ⟨rfl, rfl, HH6⟩
              case rest =>
                obtain ⟨rfl, rfl, HH6⟩ := hcut
                obtain ⟨w6, rfl⟩ : ∃ w6, w6 = wc := ⟨_, rfl⟩
                obtain ⟨z0, z1, z2, z3, z4, z5, z6, z7, z8, z9⟩ := ten_cells HH6.out.blk
                have HIN6 := (show Hid (IntsAt w6 ca cL) from HCL.out.2.1.keep HH6.out.K (fun _ _ _ => by simp))
                go_upto_region 21 with (first | (go_at_call 17; refine (has_left HH6.out (fun F h => has_right h (fun F h => radd cf ca m cc cL _ h HIN6.out HCL.out.2.2 HCL.out.1 o11))).mono ?_; rw [HAD.out.1, HAD.out.2.1, HAD.out.2.2]; rintro e w7 ⟨rfl, hH7⟩; have HH7 := (show Hid (Has w [] (((heapA hb ws kd ds').star (rheapA mb ws kd ds')).star (blockA bx (.cells #[.int .i64 d, .int .i64 k, .int .i64 c, .int .i64 l, .bool f, .int .i64 cf, .slice ca m cc, .int .i64 a, .int .i64 i, .int .i64 x] 29))) w7) from hH7); clear hH7))
                have hy := heap_alloc_new w7 (.cells #[.int .i64 N1, .int .i64 E] 50)
                obtain ⟨q0, q1⟩ := two_cells hy
                have HH8 := (show Hid (Has w [] (((heapA hb ws kd ds').star (rheapA mb ws kd ds')).star (blockA bx (.cells #[.int .i64 d, .int .i64 k, .int .i64 c, .int .i64 l, .bool f, .int .i64 cf, .slice ca m cc, .int .i64 a, .int .i64 i, .int .i64 x] 29))) (w7.alloc (.cells #[.int .i64 N1, .int .i64 E] 50))) from HH7.out.keep0 (Keep.alloc [] _ _))
                clear hy
                generalize w7.alloc (.cells #[.int .i64 N1, .int .i64 E] 50) = w8 at *
                generalize w7.heap.size = b8 at *
                go_quiet (first | (go_at_call 10; exact Calls.quiet_of_same ((err_any _ _).mono (by rintro e w' ⟨rfl, rfl⟩; exact ⟨rfl, rfl⟩))))
                have HH9 := (show Hid (Has w [] (((heapA hb ws kd ds').star (rheapA mb ws kd ds')).star (blockA bx (.cells #[.int .i64 d, .int .i64 k, .int .i64 c, .int .i64 l, .bool f, .int .i64 cf, .slice ca m cc, .int .i64 a, .int .i64 i, .int .i64 x] 29))) (w8.drewN nq)) from HH8.out.keep0 (Keep.drewN [] _ _))
                go_wp2_with fail
                go_meet
                exact ⟨ws, kd, ds', HH9⟩
          · as_aux_lemma =>
              have e0 : (d == 0) = false := by rw [h]; rfl
              have e1 : (d == 1) = false := by rw [h]; rfl
              have e2 : (d == 2) = false := by rw [h]; rfl
              have e3 : (d == 3) = false := by rw [h]; rfl
              have e4 : (d == 4) = true := by rw [h]; rfl
              have e5 : (d == 5) = false := by rw [h]; rfl
              have e6 : (d == 6) = false := by rw [h]; rfl
              have e7 : (d == 7) = false := by rw [h]; rfl
              clear h hd
              obtain ⟨E, ws', hF⟩ := putT_ex HF.out t i x
              have HFT := (show Hid (PutT kd ws t i x E ws') from hF)
              have HRD := (show Hid (Has w [] (((heapA hb ws kd ds).star (rheapA mb ws kd ds)).star (blockA bx (.cells #[.int .i64 d, .int .i64 k, .int .i64 c, .int .i64 l, .bool f, .int .i64 cf, .slice ca m cc, .int .i64 a, .int .i64 i, .int .i64 x] 29))) w5.drew) from HR5.out.keep0 (Keep.drew [] _))
              clear hF
              go_upto_region 25 with fail
              go_region_held3 (fun wz => wz.cell? ⟨bx, 8, none⟩ = some (.int .i64 i) ∧ wz.cell? ⟨bx, 9, none⟩ = some (.int .i64 x)) (go_keep) (first | (go_at_call 18; refine (has_left HRD.out (fun F h => has_left h (fun F h => oput t i x E ws' _ h HFT.out o8))).mono ?_; rintro e w6 ⟨rfl, hH6⟩; have HH6 := (show Hid (Has w [] (((heapA hb ws' kd ds).star (rheapA mb ws kd ds)).star (blockA bx (.cells #[.int .i64 d, .int .i64 k, .int .i64 c, .int .i64 l, .bool f, .int .i64 cf, .slice ca m cc, .int .i64 a, .int .i64 i, .int .i64 x] 29))) w6) from hH6); obtain ⟨z0, z1, z2, z3, z4, z5, z6, z7, z8, z9⟩ := ten_cells hH6.blk; clear hH6) | (go_at_call 19; refine (has_left HH6.out (fun F h => has_right h (fun F h => rput t i x E ws' _ h HFT.out o8))).mono ?_; rintro e w7 ⟨rfl, hH7⟩; have HH7 := (show Hid (Has w [] (((heapA hb ws' kd ds).star (rheapA mb ws' kd ds)).star (blockA bx (.cells #[.int .i64 d, .int .i64 k, .int .i64 c, .int .i64 l, .bool f, .int .i64 cf, .slice ca m cc, .int .i64 a, .int .i64 i, .int .i64 x] 29))) w7) from hH7); obtain ⟨z0, z1, z2, z3, z4, z5, z6, z7, z8, z9⟩ := ten_cells hH7.blk; clear hH7) | (go_at_call 10; refine (err_any _ _).mono ?_; rintro e w' ⟨rfl, rfl⟩))
              go_wp2_with fail
              go_meet
              exact ⟨ws', kd, ds, HH7⟩
          · as_aux_lemma =>
              have e0 : (d == 0) = false := by rw [h]; rfl
              have e1 : (d == 1) = false := by rw [h]; rfl
              have e2 : (d == 2) = false := by rw [h]; rfl
              have e3 : (d == 3) = false := by rw [h]; rfl
              have e4 : (d == 4) = false := by rw [h]; rfl
              have e5 : (d == 5) = true := by rw [h]; rfl
              have e6 : (d == 6) = false := by rw [h]; rfl
              have e7 : (d == 7) = false := by rw [h]; rfl
              clear h hd
              obtain ⟨E, ws', hF⟩ := putT_ex HF.out t i x
              have HFT := (show Hid (PutT kd ws t i x E ws') from hF)
              have HRD := (show Hid (Has w [] (((heapA hb ws kd ds).star (rheapA mb ws kd ds)).star (blockA bx (.cells #[.int .i64 d, .int .i64 k, .int .i64 c, .int .i64 l, .bool f, .int .i64 cf, .slice ca m cc, .int .i64 a, .int .i64 i, .int .i64 x] 29))) w5.drew) from HR5.out.keep0 (Keep.drew [] _))
              clear hF
              go_upto_region 25 with fail
              go_region_held3 (fun wz => wz.cell? ⟨bx, 8, none⟩ = some (.int .i64 i) ∧ wz.cell? ⟨bx, 9, none⟩ = some (.int .i64 x)) (go_keep) (first | (go_at_call 18; refine (has_left HRD.out (fun F h => has_left h (fun F h => oput t i x E ws' _ h HFT.out o8))).mono ?_; rintro e w6 ⟨rfl, hH6⟩; have HH6 := (show Hid (Has w [] (((heapA hb ws' kd ds).star (rheapA mb ws kd ds)).star (blockA bx (.cells #[.int .i64 d, .int .i64 k, .int .i64 c, .int .i64 l, .bool f, .int .i64 cf, .slice ca m cc, .int .i64 a, .int .i64 i, .int .i64 x] 29))) w6) from hH6); obtain ⟨z0, z1, z2, z3, z4, z5, z6, z7, z8, z9⟩ := ten_cells hH6.blk; clear hH6) | (go_at_call 19; refine (has_left HH6.out (fun F h => has_right h (fun F h => rput t i x E ws' _ h HFT.out o8))).mono ?_; rintro e w7 ⟨rfl, hH7⟩; have HH7 := (show Hid (Has w [] (((heapA hb ws' kd ds).star (rheapA mb ws' kd ds)).star (blockA bx (.cells #[.int .i64 d, .int .i64 k, .int .i64 c, .int .i64 l, .bool f, .int .i64 cf, .slice ca m cc, .int .i64 a, .int .i64 i, .int .i64 x] 29))) w7) from hH7); obtain ⟨z0, z1, z2, z3, z4, z5, z6, z7, z8, z9⟩ := ten_cells hH7.blk; clear hH7) | (go_at_call 10; refine (err_any _ _).mono ?_; rintro e w' ⟨rfl, rfl⟩))
              go_wp2_with fail
              go_meet
              exact ⟨ws', kd, ds, HH7⟩
          · as_aux_lemma =>
              have e0 : (d == 0) = false := by rw [h]; rfl
              have e1 : (d == 1) = false := by rw [h]; rfl
              have e2 : (d == 2) = false := by rw [h]; rfl
              have e3 : (d == 3) = false := by rw [h]; rfl
              have e4 : (d == 4) = false := by rw [h]; rfl
              have e5 : (d == 5) = false := by rw [h]; rfl
              have e6 : (d == 6) = false := by rw [h]; rfl
              have e7 : (d == 7) = true := by rw [h]; rfl
              clear h hd
              obtain ⟨E, kd', hF⟩ := freeT_ex (kd := kd) t HF.out.wf
              have HFT := (show Hid (FreeT kd t E kd') from hF)
              have HF2 := (show Hid (Fine ws kd' ds) from hF.fine HF.out)
              obtain ⟨sb, tb, sm, hRW⟩ := duo_raw HR5.out
              have HRD := (show Hid (Has w [] (((rawA hb sb tb ws kd ds).star (rrawA mb sm ws kd ds)).star (blockA bx (.cells #[.int .i64 d, .int .i64 k, .int .i64 c, .int .i64 l, .bool f, .int .i64 cf, .slice ca m cc, .int .i64 a, .int .i64 i, .int .i64 x] 29))) w5.drew) from hRW.keep0 (Keep.drew [] _))
              have c1 := hRW.fst.fst.cells.1
              have c2 := hRW.fst.snd.rcells.1
              clear hF hRW
              go_upto_region 31 with fail
              go_region_held3 (fun wz => wz.cell? ⟨hb, 0, none⟩ = some (.pointer (some ⟨sb, 0, none⟩)) ∧ wz.cell? ⟨mb, 0, none⟩ = some (.pointer (some ⟨sm, 0, none⟩))) (go_keep) (first | (go_at_call 22; refine (has_left HRD.out (fun F h => has_left h (fun F h => xfree _ t E kd' h HF.out.wf HFT.out))).mono ?_; rintro e w6 ⟨rfl, hH6⟩; have HH6 := (show Hid (Has w [] (((rawA hb sb tb ws kd' ds).star (rrawA mb sm ws kd ds)).star (blockA bx (.cells #[.int .i64 d, .int .i64 k, .int .i64 c, .int .i64 l, .bool f, .int .i64 cf, .slice ca m cc, .int .i64 a, .int .i64 i, .int .i64 x] 29))) w6) from hH6); have r1 := hH6.fst.fst.cells.1; have r2 := hH6.fst.snd.rcells.1; clear hH6) | (go_at_call 23; refine (has_left HH6.out (fun F h => has_right h (fun F h => yfree _ t E kd' h HF.out.wf HFT.out))).mono ?_; rintro e w7 ⟨rfl, hH7⟩; have HH7 := (show Hid (Has w [] (((rawA hb sb tb ws kd' ds).star (rrawA mb sm ws kd' ds)).star (blockA bx (.cells #[.int .i64 d, .int .i64 k, .int .i64 c, .int .i64 l, .bool f, .int .i64 cf, .slice ca m cc, .int .i64 a, .int .i64 i, .int .i64 x] 29))) w7) from hH7); have r3 := hH7.fst.fst.cells.1; have r4 := hH7.fst.snd.rcells.1; clear hH7) | (go_at_call 10; refine (err_any _ _).mono ?_; rintro e w' ⟨rfl, rfl⟩))
              go_wp2_with fail
              go_meet
              exact ⟨ws, kd', ds, duo_heap HH7.out HF2.out⟩
        · as_aux_lemma =>
            have e0 : (d == 0) = false := by simp; omega
            have e1 : (d == 1) = false := by simp; omega
            have e2 : (d == 2) = false := by simp; omega
            have e3 : (d == 3) = false := by simp; omega
            have e4 : (d == 4) = false := by simp; omega
            have e5 : (d == 5) = false := by simp; omega
            have e6 : (d == 6) = false := by simp; omega
            have e7 : (d == 7) = false := by simp; omega
            clear hd
            go_wp2_with fail
            go_meet
            exact ⟨ws, kd, ds, HR5⟩
      case rest =>
        clear HR5 HR1 g0 g1 g2 g3 g4 g5 g6 g7 g8 g9 HT HCL o1 o2 o3 o4 o5 o6 o7 o8 o11 p0 p1 p2 p3 p4 p5 p6 p7 p8 p9
        clear ws kd ds
        obtain ⟨ws, kd, ds, HB⟩ := hcut
        obtain ⟨w6, rfl⟩ : ∃ w6, w6 = wc := ⟨_, rfl⟩
        obtain ⟨_, _, _, _, _, _, _, _, p8, _⟩ := ten_cells HB.out.blk
        have hfi := HB.out.fst.fst.fine
        obtain ⟨FN, FE, hFT⟩ := fieldT_ex hfi t i
        obtain ⟨hk, hc, hl, hf, HE, hHT⟩ := headT_ex hfi.ob t
        obtain ⟨RL, hRT⟩ := refsT_ex hfi.ob t
        have HFT := (show Hid (FieldT kd ws t i FN FE) from hFT)
        have HRT := (show Hid (RefsT kd ws ds t RL) from hRT)
        obtain ⟨ok, hok⟩ : ∃ ok, okE HE = ok := ⟨_, rfl⟩
        have HOK := (show Hid (HeadT kd ws t hk hc hl hf HE ∧ okE HE = ok ∧ ((HE = 0 ∧ ok = true) ∨ (HE = 2 ∧ ok = false))) from by
          refine ⟨hHT, hok, ?_⟩
          cases hHT with
          | no _ => exact .inr ⟨rfl, hok.symm⟩
          | yes _ _ _ _ _ _ _ => exact .inl ⟨rfl, hok.symm⟩)
        obtain ⟨rn, hrn⟩ : ∃ rn, RL.length = rn := ⟨_, rfl⟩
        have hrl := refsT_len HB.out.fst.fst hRT
        rw [hrn] at hrl
        have HRN := (show Hid (RL.length = rn) from hrn)
        have HDU := (show Hid (Has w [] ((heapA hb ws kd ds).star (rheapA mb ws kd ds)) w6) from HB.out.fst)
        clear hfi hFT hHT hRT hok hrn HB
        go_upto_region 34 with (first | (go_at_call 24; refine (ofield t i FN FE _ HDU.out.fst HFT.out).mono ?_; rintro e w7 ⟨rfl, hK7⟩))
        have p8' := (hK7.cell (lt_of_cell2 p8) (by simp) 8).trans p8
        have HD7 := (show Hid (Has w [] ((heapA hb ws kd ds).star (rheapA mb ws kd ds)) w7) from HDU.out.keep0 hK7)
        clear p8 hK7 HDU
        go_upto_region 35 with (first | (go_at_call 25; refine (rfield t i FN FE _ HD7.out.snd HFT.out).mono ?_; rintro e w8 ⟨rfl, hK8⟩))
        have hb1 := heap_alloc_new w8 (.cells #[.int .i64 FN, .int .i64 FE] 50)
        have HD8 := (show Hid (Has w [] ((heapA hb ws kd ds).star (rheapA mb ws kd ds)) (w8.alloc (.cells #[.int .i64 FN, .int .i64 FE] 50))) from HD7.out.keep0 (hK8.trans (Keep.alloc [] _ _)))
        clear p8' hK8 HD7
        generalize w8.alloc (.cells #[.int .i64 FN, .int .i64 FE] 50) = w9 at *
        generalize w8.heap.size = b1 at *
        go_upto_region 36 with (first | (go_at_call 26; refine (ohead t hk hc hl HE hf _ HD8.out.fst HOK.out.1).mono ?_; rintro e w10 ⟨rfl, hK10⟩))
        have hKx := hK10.trans (Keep.alloc [] w10 (.cells #[.int .i64 hk, .int .i64 hc, .int .i64 hl, .bool hf] 27))
        have hb2 := heap_alloc_new w10 (.cells #[.int .i64 hk, .int .i64 hc, .int .i64 hl, .bool hf] 27)
        have hb1' := hKx.blk hb1 (by simp)
        have HD9 := (show Hid (Has w [] ((heapA hb ws kd ds).star (rheapA mb ws kd ds)) (w10.alloc (.cells #[.int .i64 hk, .int .i64 hc, .int .i64 hl, .bool hf] 27))) from HD8.out.keep0 hKx)
        clear hb1 hK10 hKx HD8
        generalize w10.alloc (.cells #[.int .i64 hk, .int .i64 hc, .int .i64 hl, .bool hf] 27) = w11 at *
        generalize w10.heap.size = b2 at *
        go_upto_region 37 with (first | (go_at_call 27; refine (rhead t hk hc hl HE hf _ HD9.out.snd HOK.out.1).mono ?_; rw [HOK.out.2.1]; rintro e w12 ⟨rfl, hK12⟩))
        have hKx := hK12.trans (Keep.alloc [] w12 (.cells #[.int .i64 hk, .int .i64 hc, .int .i64 hl, .bool hf, .bool ok] 71))
        have hb3 := heap_alloc_new w12 (.cells #[.int .i64 hk, .int .i64 hc, .int .i64 hl, .bool hf, .bool ok] 71)
        have hb1 := hKx.blk hb1' (by simp)
        have hb2' := hKx.blk hb2 (by simp)
        have HDA := (show Hid (Has w [] ((heapA hb ws kd ds).star (rheapA mb ws kd ds)) (w12.alloc (.cells #[.int .i64 hk, .int .i64 hc, .int .i64 hl, .bool hf, .bool ok] 71))) from HD9.out.keep0 hKx)
        clear hb1' hb2 hK12 hKx HD9
        generalize w12.alloc (.cells #[.int .i64 hk, .int .i64 hc, .int .i64 hl, .bool hf, .bool ok] 71) = w13 at *
        generalize w12.heap.size = b3 at *
        obtain ⟨x0, x1⟩ := two_cells hb1
        obtain ⟨y0, y1, y2, y3⟩ := four_cells hb2'
        obtain ⟨_, z0, z1, z2, z3, z4⟩ := five_free hb3
        have HBK := (show Hid (∀ w', Keep [] w13 w' → w'.heap[b1]? = some (.cells #[.int .i64 FN, .int .i64 FE] 50 (0, 0)) ∧ w'.heap[b2]? = some (.cells #[.int .i64 hk, .int .i64 hc, .int .i64 hl, .bool hf] 27 (0, 0)) ∧ w'.heap[b3]? = some (.cells #[.int .i64 hk, .int .i64 hc, .int .i64 hl, .bool hf, .bool ok] 71 (0, 0))) from fun w' K => ⟨K.blk hb1 (by simp), K.blk hb2' (by simp), K.blk hb3 (by simp)⟩)
        clear hb1 hb2' hb3
        rcases HOK.out.2.2 with ⟨hE, ho⟩ | ⟨hE, ho⟩
        · as_aux_lemma =>
            subst hE ho
            clear HOK
            obtain ⟨k1, k2, k3⟩ := HBK.out _ (Keep.drew [] w13)
            obtain ⟨s0, s1⟩ := two_cells k1
            obtain ⟨s2, s3, s4, s5⟩ := four_cells k2
            obtain ⟨_, s6, s7, s8, s9, s10⟩ := five_free k3
            clear k1 k2 k3
            refine wp_region_held_drew (S := (fun wz => wz.cell? ⟨b1, 0, none⟩ = some (.int .i64 FN) ∧ wz.cell? ⟨b1, 1, none⟩ = some (.int .i64 FE) ∧ wz.cell? ⟨b2, 0, none⟩ = some (.int .i64 hk) ∧ wz.cell? ⟨b2, 1, none⟩ = some (.int .i64 hc) ∧ wz.cell? ⟨b2, 2, none⟩ = some (.int .i64 hl) ∧ wz.cell? ⟨b2, 3, none⟩ = some (.bool hf) ∧ wz.cell? ⟨b3, 0, none⟩ = some (.int .i64 hk) ∧ wz.cell? ⟨b3, 1, none⟩ = some (.int .i64 hc) ∧ wz.cell? ⟨b3, 2, none⟩ = some (.int .i64 hl) ∧ wz.cell? ⟨b3, 3, none⟩ = some (.bool hf) ∧ wz.cell? ⟨b3, 4, none⟩ = some (.bool true))) (by kernel_rfl) ⟨s0, s1, s2, s3, s4, s5, s6, s7, s8, s9, s10⟩ (fun hHeld => ?_)
            refine wpAnyH_take (i := 0) (oi := ?oi0) (v := ?vv0) ?hoi0 (by kernel_rfl) (by kernel_rfl) (by kernel_rfl) ?hq0 (Or.inl ⟨?hw0, ?hy0⟩) (by assumption) ?rest0
            case hoi0 => simp only [List.getElem?_toArray, List.getElem?_cons_succ, List.getElem?_cons_zero]; rfl
            case hq0 => exact fun _ _ _ h => h
            case hw0 => rfl
            case hy0 =>
              intro w hSw
              (try dsimp only at hSw)
              go_simp
              try with_reducible rfl
            try simp only [Act.put, List.setIfInBounds_toArray, List.set_cons_zero, List.set_cons_succ]
            refine wpAnyH_take (i := 1) (oi := ?oi1) (v := ?vv1) ?hoi1 (by kernel_rfl) (by kernel_rfl) (by kernel_rfl) ?hq1 (Or.inl ⟨?hw1, ?hy1⟩) (by assumption) ?rest1
            case hoi1 => simp only [List.getElem?_toArray, List.getElem?_cons_succ, List.getElem?_cons_zero]; rfl
            case hq1 => exact fun _ _ _ h => h
            case hw1 => rfl
            case hy1 =>
              intro w hSw
              (try dsimp only at hSw)
              go_simp
              try with_reducible rfl
            try simp only [Act.put, List.setIfInBounds_toArray, List.set_cons_zero, List.set_cons_succ]
            refine wpAnyH_take (i := 2) (oi := ?oi2) (v := ?vv2) ?hoi2 (by kernel_rfl) (by kernel_rfl) (by kernel_rfl) ?hq2 (Or.inl ⟨?hw2, ?hy2⟩) (by assumption) ?rest2
            case hoi2 => simp only [List.getElem?_toArray, List.getElem?_cons_succ, List.getElem?_cons_zero]; rfl
            case hq2 => exact fun _ _ _ h => h
            case hw2 => rfl
            case hy2 =>
              intro w hSw
              (try dsimp only at hSw)
              go_simp
              try with_reducible rfl
            try simp only [Act.put, List.setIfInBounds_toArray, List.set_cons_zero, List.set_cons_succ]
            refine wpAnyH_take (i := 3) (oi := ?oi3) (v := ?vv3) ?hoi3 (by kernel_rfl) (by kernel_rfl) (by kernel_rfl) ?hq3 (Or.inl ⟨?hw3, ?hy3⟩) (by assumption) ?rest3
            case hoi3 => simp only [List.getElem?_toArray, List.getElem?_cons_succ, List.getElem?_cons_zero]; rfl
            case hq3 => exact fun _ _ _ h => h
            case hw3 => rfl
            case hy3 =>
              intro w hSw
              (try dsimp only at hSw)
              go_simp
              try with_reducible rfl
            try simp only [Act.put, List.setIfInBounds_toArray, List.set_cons_zero, List.set_cons_succ]
            refine wpAnyH_take (i := 4) (oi := ?oi4) (v := ?vv4) ?hoi4 (by kernel_rfl) (by kernel_rfl) (by kernel_rfl) ?hq4 (Or.inl ⟨?hw4, ?hy4⟩) (by assumption) ?rest4
            case hoi4 => simp only [List.getElem?_toArray, List.getElem?_cons_succ, List.getElem?_cons_zero]; rfl
            case hq4 => exact fun _ _ _ h => h
            case hw4 => rfl
            case hy4 =>
              intro w hSw
              (try dsimp only at hSw)
              go_simp
              try with_reducible rfl
            try simp only [Act.put, List.setIfInBounds_toArray, List.set_cons_zero, List.set_cons_succ]
            refine wpAnyH_take (i := 5) (oi := ?oi5) (v := ?vv5) ?hoi5 (by kernel_rfl) (by kernel_rfl) (by kernel_rfl) ?hq5 (Or.inl ⟨?hw5, ?hy5⟩) (by assumption) ?rest5
            case hoi5 => simp only [List.getElem?_toArray, List.getElem?_cons_succ, List.getElem?_cons_zero]; rfl
            case hq5 => exact fun _ _ _ h => h
            case hw5 => rfl
            case hy5 =>
              intro w hSw
              (try dsimp only at hSw)
              go_simp
              try with_reducible rfl
            try simp only [Act.put, List.setIfInBounds_toArray, List.set_cons_zero, List.set_cons_succ]
            refine wpAnyH_take (i := 7) (oi := ?oi7) (v := ?vv7) ?hoi7 (by kernel_rfl) (by kernel_rfl) (by kernel_rfl) ?hq7 (Or.inl ⟨?hw7, ?hy7⟩) (by assumption) ?rest7
            case hoi7 => simp only [List.getElem?_toArray, List.getElem?_cons_succ, List.getElem?_cons_zero]; rfl
            case hq7 => exact fun _ _ _ h => h
            case hw7 => rfl
            case hy7 =>
              intro w hSw
              (try dsimp only at hSw)
              go_simp
              try with_reducible rfl
            try simp only [Act.put, List.setIfInBounds_toArray, List.set_cons_zero, List.set_cons_succ]
            refine wpAnyH_take (i := 8) (oi := ?oi8) (v := ?vv8) ?hoi8 (by kernel_rfl) (by kernel_rfl) (by kernel_rfl) ?hq8 (Or.inl ⟨?hw8, ?hy8⟩) (by assumption) ?rest8
            case hoi8 => simp only [List.getElem?_toArray, List.getElem?_cons_succ, List.getElem?_cons_zero]; rfl
            case hq8 => exact fun _ _ _ h => h
            case hw8 => rfl
            case hy8 =>
              intro w hSw
              (try dsimp only at hSw)
              go_simp
              try with_reducible rfl
            try simp only [Act.put, List.setIfInBounds_toArray, List.set_cons_zero, List.set_cons_succ]
            refine wpAnyH_ready (rs := [6]) (by kernel_rfl) (by simp) ?_
            refine AllReadyH.cons (o := ?oo6) ?ho6 (fun K hK => ?step6) AllReadyH.nil
            case ho6 => simp only [List.getElem?_toArray, List.getElem?_cons_succ, List.getElem?_cons_zero]; rfl
            go_simp
            refine (err_any _ _).mono ?_
            rintro e w' ⟨rfl, rfl⟩
            refine hK.out _ _ (by assumption) (fun hHeld => ?_)
            clear hK K
            try simp only [Act.put, List.setIfInBounds_toArray, List.set_cons_zero, List.set_cons_succ]
            refine wpAnyH_take (i := 9) (oi := ?oi9) (v := ?vv9) ?hoi9 (by kernel_rfl) (by kernel_rfl) (by kernel_rfl) ?hq9 (Or.inl ⟨?hw9, ?hy9⟩) (by assumption) ?rest9
            case hoi9 => simp only [List.getElem?_toArray, List.getElem?_cons_succ, List.getElem?_cons_zero]; rfl
            case hq9 => exact fun _ _ _ h => h
            case hw9 => rfl
            case hy9 =>
              intro w hSw
              (try dsimp only at hSw)
              go_simp
              try with_reducible rfl
            try simp only [Act.put, List.setIfInBounds_toArray, List.set_cons_zero, List.set_cons_succ]
            refine wpAnyH_take (i := 10) (oi := ?oi10) (v := ?vv10) ?hoi10 (by kernel_rfl) (by kernel_rfl) (by kernel_rfl) ?hq10 (Or.inl ⟨?hw10, ?hy10⟩) (by assumption) ?rest10
            case hoi10 => simp only [List.getElem?_toArray, List.getElem?_cons_succ, List.getElem?_cons_zero]; rfl
            case hq10 => exact fun _ _ _ h => h
            case hw10 => rfl
            case hy10 =>
              intro w hSw
              (try dsimp only at hSw)
              go_simp
              try with_reducible rfl
            try simp only [Act.put, List.setIfInBounds_toArray, List.set_cons_zero, List.set_cons_succ]
            refine wpAnyH_take (i := 11) (oi := ?oi11) (v := ?vv11) ?hoi11 (by kernel_rfl) (by kernel_rfl) (by kernel_rfl) ?hq11 (Or.inl ⟨?hw11, ?hy11⟩) (by assumption) ?rest11
            case hoi11 => simp only [List.getElem?_toArray, List.getElem?_cons_succ, List.getElem?_cons_zero]; rfl
            case hq11 => exact fun _ _ _ h => h
            case hw11 => rfl
            case hy11 =>
              intro w hSw
              (try dsimp only at hSw)
              go_simp
              try with_reducible rfl
            try simp only [Act.put, List.setIfInBounds_toArray, List.set_cons_zero, List.set_cons_succ]
            refine wpAnyH_take (i := 12) (oi := ?oi12) (v := ?vv12) ?hoi12 (by kernel_rfl) (by kernel_rfl) (by kernel_rfl) ?hq12 (Or.inl ⟨?hw12, ?hy12⟩) (by assumption) ?rest12
            case hoi12 => simp only [List.getElem?_toArray, List.getElem?_cons_succ, List.getElem?_cons_zero]; rfl
            case hq12 => exact fun _ _ _ h => h
            case hw12 => rfl
            case hy12 =>
              intro w hSw
              (try dsimp only at hSw)
              go_simp
              try with_reducible rfl
            try simp only [Act.put, List.setIfInBounds_toArray, List.set_cons_zero, List.set_cons_succ]
            refine wpAnyH_take (i := 13) (oi := ?oi13) (v := ?vv13) ?hoi13 (by kernel_rfl) (by kernel_rfl) (by kernel_rfl) ?hq13 (Or.inl ⟨?hw13, ?hy13⟩) (by assumption) ?rest13
            case hoi13 => simp only [List.getElem?_toArray, List.getElem?_cons_succ, List.getElem?_cons_zero]; rfl
            case hq13 => exact fun _ _ _ h => h
            case hw13 => rfl
            case hy13 =>
              intro w hSw
              (try dsimp only at hSw)
              go_simp
              try with_reducible rfl
            try simp only [Act.put, List.setIfInBounds_toArray, List.set_cons_zero, List.set_cons_succ]
            refine wpAnyH_take (i := 14) (oi := ?oi14) (v := ?vv14) ?hoi14 (by kernel_rfl) (by kernel_rfl) (by kernel_rfl) ?hq14 (Or.inl ⟨?hw14, ?hy14⟩) (by assumption) ?rest14
            case hoi14 => simp only [List.getElem?_toArray, List.getElem?_cons_succ, List.getElem?_cons_zero]; rfl
            case hq14 => exact fun _ _ _ h => h
            case hw14 => rfl
            case hy14 =>
              intro w hSw
              (try dsimp only at hSw)
              go_simp
              try with_reducible rfl
            try simp only [Act.put, List.setIfInBounds_toArray, List.set_cons_zero, List.set_cons_succ]
            refine wpAnyH_take (i := 15) (oi := ?oi15) (v := ?vv15) ?hoi15 (by kernel_rfl) (by kernel_rfl) (by kernel_rfl) ?hq15 (Or.inl ⟨?hw15, ?hy15⟩) (by assumption) ?rest15
            case hoi15 => simp only [List.getElem?_toArray, List.getElem?_cons_succ, List.getElem?_cons_zero]; rfl
            case hq15 => exact fun _ _ _ h => h
            case hw15 => rfl
            case hy15 =>
              intro w hSw
              (try dsimp only at hSw)
              go_simp
              try with_reducible rfl
            try simp only [Act.put, List.setIfInBounds_toArray, List.set_cons_zero, List.set_cons_succ]
            refine wpAnyH_take (i := 16) (oi := ?oi16) (v := ?vv16) ?hoi16 (by kernel_rfl) (by kernel_rfl) (by kernel_rfl) ?hq16 (Or.inl ⟨?hw16, ?hy16⟩) (by assumption) ?rest16
            case hoi16 => simp only [List.getElem?_toArray, List.getElem?_cons_succ, List.getElem?_cons_zero]; rfl
            case hq16 => exact fun _ _ _ h => h
            case hw16 => rfl
            case hy16 =>
              intro w hSw
              (try dsimp only at hSw)
              go_simp
              try with_reducible rfl
            try simp only [Act.put, List.setIfInBounds_toArray, List.set_cons_zero, List.set_cons_succ]
            refine wpAnyH_take (i := 17) (oi := ?oi17) (v := ?vv17) ?hoi17 (by kernel_rfl) (by kernel_rfl) (by kernel_rfl) ?hq17 (Or.inl ⟨?hw17, ?hy17⟩) (by assumption) ?rest17
            case hoi17 => simp only [List.getElem?_toArray, List.getElem?_cons_succ, List.getElem?_cons_zero]; rfl
            case hq17 => exact fun _ _ _ h => h
            case hw17 => rfl
            case hy17 =>
              intro w hSw
              (try dsimp only at hSw)
              go_simp
              try with_reducible rfl
            try simp only [Act.put, List.setIfInBounds_toArray, List.set_cons_zero, List.set_cons_succ]
            refine wpAnyH_take (i := 18) (oi := ?oi18) (v := ?vv18) ?hoi18 (by kernel_rfl) (by kernel_rfl) (by kernel_rfl) ?hq18 (Or.inl ⟨?hw18, ?hy18⟩) (by assumption) ?rest18
            case hoi18 => simp only [List.getElem?_toArray, List.getElem?_cons_succ, List.getElem?_cons_zero]; rfl
            case hq18 => exact fun _ _ _ h => h
            case hw18 => rfl
            case hy18 =>
              intro w hSw
              (try dsimp only at hSw)
              go_simp
              try with_reducible rfl
            try simp only [Act.put, List.setIfInBounds_toArray, List.set_cons_zero, List.set_cons_succ]
            refine wpAnyH_take (i := 21) (oi := ?oi21) (v := ?vv21) ?hoi21 (by kernel_rfl) (by kernel_rfl) (by kernel_rfl) ?hq21 (Or.inl ⟨?hw21, ?hy21⟩) (by assumption) ?rest21
            case hoi21 => simp only [List.getElem?_toArray, List.getElem?_cons_succ, List.getElem?_cons_zero]; rfl
            case hq21 => exact fun _ _ _ h => h
            case hw21 => rfl
            case hy21 =>
              intro w hSw
              (try dsimp only at hSw)
              go_simp
              try with_reducible rfl
            try simp only [Act.put, List.setIfInBounds_toArray, List.set_cons_zero, List.set_cons_succ]
            refine wpAnyH_take (i := 22) (oi := ?oi22) (v := ?vv22) ?hoi22 (by kernel_rfl) (by kernel_rfl) (by kernel_rfl) ?hq22 (Or.inl ⟨?hw22, ?hy22⟩) (by assumption) ?rest22
            case hoi22 => simp only [List.getElem?_toArray, List.getElem?_cons_succ, List.getElem?_cons_zero]; rfl
            case hq22 => exact fun _ _ _ h => h
            case hw22 => rfl
            case hy22 =>
              intro w hSw
              (try dsimp only at hSw)
              go_simp
              try with_reducible rfl
            try simp only [Act.put, List.setIfInBounds_toArray, List.set_cons_zero, List.set_cons_succ]
            refine wpAnyH_ready (rs := [19]) (by kernel_rfl) (by simp) ?_
            refine AllReadyH.cons (o := ?oo19) ?ho19 (fun K hK => ?step19) AllReadyH.nil
            case ho19 => simp only [List.getElem?_toArray, List.getElem?_cons_succ, List.getElem?_cons_zero]; rfl
            go_simp
            refine (err_any _ _).mono ?_
            rintro e w' ⟨rfl, rfl⟩
            refine hK.out _ _ (by assumption) (fun hHeld => ?_)
            clear hK K
            try simp only [Act.put, List.setIfInBounds_toArray, List.set_cons_zero, List.set_cons_succ]
            refine wpAnyH_take (i := 20) (oi := ?oi20) (v := ?vv20) ?hoi20 (by kernel_rfl) (by kernel_rfl) (by kernel_rfl) ?hq20 (Or.inl ⟨?hw20, ?hy20⟩) (by assumption) ?rest20
            case hoi20 => simp only [List.getElem?_toArray, List.getElem?_cons_succ, List.getElem?_cons_zero]; rfl
            case hq20 => exact fun _ _ _ h => h
            case hw20 => rfl
            case hy20 =>
              intro w hSw
              (try dsimp only at hSw)
              go_simp
              try with_reducible rfl
            try simp only [Act.put, List.setIfInBounds_toArray, List.set_cons_zero, List.set_cons_succ]
            refine wpAnyH_take (i := 23) (oi := ?oi23) (v := ?vv23) ?hoi23 (by kernel_rfl) (by kernel_rfl) (by kernel_rfl) ?hq23 (Or.inl ⟨?hw23, ?hy23⟩) (by assumption) ?rest23
            case hoi23 => simp only [List.getElem?_toArray, List.getElem?_cons_succ, List.getElem?_cons_zero]; rfl
            case hq23 => exact fun _ _ _ h => h
            case hw23 => rfl
            case hy23 =>
              intro w hSw
              (try dsimp only at hSw)
              go_simp
              try with_reducible rfl
            try simp only [Act.put, List.setIfInBounds_toArray, List.set_cons_zero, List.set_cons_succ]
            refine wpAnyH_take (i := 24) (oi := ?oi24) (v := ?vv24) ?hoi24 (by kernel_rfl) (by kernel_rfl) (by kernel_rfl) ?hq24 (Or.inl ⟨?hw24, ?hy24⟩) (by assumption) ?rest24
            case hoi24 => simp only [List.getElem?_toArray, List.getElem?_cons_succ, List.getElem?_cons_zero]; rfl
            case hq24 => exact fun _ _ _ h => h
            case hw24 => rfl
            case hy24 =>
              intro w hSw
              (try dsimp only at hSw)
              go_simp
              try with_reducible rfl
            try simp only [Act.put, List.setIfInBounds_toArray, List.set_cons_zero, List.set_cons_succ]
            refine wpAnyH_take (i := 25) (oi := ?oi25) (v := ?vv25) ?hoi25 (by kernel_rfl) (by kernel_rfl) (by kernel_rfl) ?hq25 (Or.inl ⟨?hw25, ?hy25⟩) (by assumption) ?rest25
            case hoi25 => simp only [List.getElem?_toArray, List.getElem?_cons_succ, List.getElem?_cons_zero]; rfl
            case hq25 => exact fun _ _ _ h => h
            case hw25 => rfl
            case hy25 =>
              intro w hSw
              (try dsimp only at hSw)
              go_simp
              try with_reducible rfl
            try simp only [Act.put, List.setIfInBounds_toArray, List.set_cons_zero, List.set_cons_succ]
            refine wpAnyH_take (i := 26) (oi := ?oi26) (v := ?vv26) ?hoi26 (by kernel_rfl) (by kernel_rfl) (by kernel_rfl) ?hq26 (Or.inl ⟨?hw26, ?hy26⟩) (by assumption) ?rest26
            case hoi26 => simp only [List.getElem?_toArray, List.getElem?_cons_succ, List.getElem?_cons_zero]; rfl
            case hq26 => exact fun _ _ _ h => h
            case hw26 => rfl
            case hy26 =>
              intro w hSw
              (try dsimp only at hSw)
              go_simp
              try with_reducible rfl
            try simp only [Act.put, List.setIfInBounds_toArray, List.set_cons_zero, List.set_cons_succ]
            refine wpAnyH_take (i := 27) (oi := ?oi27) (v := ?vv27) ?hoi27 (by kernel_rfl) (by kernel_rfl) (by kernel_rfl) ?hq27 (Or.inl ⟨?hw27, ?hy27⟩) (by assumption) ?rest27
            case hoi27 => simp only [List.getElem?_toArray, List.getElem?_cons_succ, List.getElem?_cons_zero]; rfl
            case hq27 => exact fun _ _ _ h => h
            case hw27 => rfl
            case hy27 =>
              intro w hSw
              (try dsimp only at hSw)
              go_simp
              try with_reducible rfl
            try simp only [Act.put, List.setIfInBounds_toArray, List.set_cons_zero, List.set_cons_succ]
            refine wpAnyH_take (i := 28) (oi := ?oi28) (v := ?vv28) ?hoi28 (by kernel_rfl) (by kernel_rfl) (by kernel_rfl) ?hq28 (Or.inl ⟨?hw28, ?hy28⟩) (by assumption) ?rest28
            case hoi28 => simp only [List.getElem?_toArray, List.getElem?_cons_succ, List.getElem?_cons_zero]; rfl
            case hq28 => exact fun _ _ _ h => h
            case hw28 => rfl
            case hy28 =>
              intro w hSw
              (try dsimp only at hSw)
              go_simp
              try with_reducible rfl
            try simp only [Act.put, List.setIfInBounds_toArray, List.set_cons_zero, List.set_cons_succ]
            refine wpAnyH_take (i := 29) (oi := ?oi29) (v := ?vv29) ?hoi29 (by kernel_rfl) (by kernel_rfl) (by kernel_rfl) ?hq29 (Or.inl ⟨?hw29, ?hy29⟩) (by assumption) ?rest29
            case hoi29 => simp only [List.getElem?_toArray, List.getElem?_cons_succ, List.getElem?_cons_zero]; rfl
            case hq29 => exact fun _ _ _ h => h
            case hw29 => rfl
            case hy29 =>
              intro w hSw
              (try dsimp only at hSw)
              go_simp
              try with_reducible rfl
            try simp only [Act.put, List.setIfInBounds_toArray, List.set_cons_zero, List.set_cons_succ]
            refine wpAnyH_take (i := 30) (oi := ?oi30) (v := undef) ?hoi30 (by kernel_rfl) (by kernel_rfl) (by kernel_rfl) ?hq30 (Or.inr ⟨?hw30, rfl⟩) (by assumption) ?rest30
            case hoi30 => simp only [List.getElem?_toArray, List.getElem?_cons_succ, List.getElem?_cons_zero]; rfl
            case hq30 => exact fun _ _ _ h => h
            case hw30 => rfl
            try simp only [Act.put, List.setIfInBounds_toArray, List.set_cons_zero, List.set_cons_succ]
            refine wpAnyH_take (i := 31) (oi := ?oi31) (v := undef) ?hoi31 (by kernel_rfl) (by kernel_rfl) (by kernel_rfl) ?hq31 (Or.inr ⟨?hw31, rfl⟩) (by assumption) ?rest31
            case hoi31 => simp only [List.getElem?_toArray, List.getElem?_cons_succ, List.getElem?_cons_zero]; rfl
            case hq31 => exact fun _ _ _ h => h
            case hw31 => rfl
            try simp only [Act.put, List.setIfInBounds_toArray, List.set_cons_zero, List.set_cons_succ]
            refine wpAnyH_take (i := 32) (oi := ?oi32) (v := undef) ?hoi32 (by kernel_rfl) (by kernel_rfl) (by kernel_rfl) ?hq32 (Or.inr ⟨?hw32, rfl⟩) (by assumption) ?rest32
            case hoi32 => simp only [List.getElem?_toArray, List.getElem?_cons_succ, List.getElem?_cons_zero]; rfl
            case hq32 => exact fun _ _ _ h => h
            case hw32 => rfl
            try simp only [Act.put, List.setIfInBounds_toArray, List.set_cons_zero, List.set_cons_succ]
            refine wpAnyH_take (i := 33) (oi := ?oi33) (v := ?vv33) ?hoi33 (by kernel_rfl) (by kernel_rfl) (by kernel_rfl) ?hq33 (Or.inl ⟨?hw33, ?hy33⟩) (by assumption) ?rest33
            case hoi33 => simp only [List.getElem?_toArray, List.getElem?_cons_succ, List.getElem?_cons_zero]; rfl
            case hq33 => exact fun _ _ _ h => h
            case hw33 => rfl
            case hy33 =>
              intro w hSw
              (try dsimp only at hSw)
              go_simp
              try with_reducible rfl
            try simp only [Act.put, List.setIfInBounds_toArray, List.set_cons_zero, List.set_cons_succ]
            refine wpAnyH_take (i := 34) (oi := ?oi34) (v := ?vv34) ?hoi34 (by kernel_rfl) (by kernel_rfl) (by kernel_rfl) ?hq34 (Or.inl ⟨?hw34, ?hy34⟩) (by assumption) ?rest34
            case hoi34 => simp only [List.getElem?_toArray, List.getElem?_cons_succ, List.getElem?_cons_zero]; rfl
            case hq34 => exact fun _ _ _ h => h
            case hw34 => rfl
            case hy34 =>
              intro w hSw
              (try dsimp only at hSw)
              go_simp
              try with_reducible rfl
            try simp only [Act.put, List.setIfInBounds_toArray, List.set_cons_zero, List.set_cons_succ]
            refine wpAnyH_take (i := 35) (oi := ?oi35) (v := ?vv35) ?hoi35 (by kernel_rfl) (by kernel_rfl) (by kernel_rfl) ?hq35 (Or.inl ⟨?hw35, ?hy35⟩) (by assumption) ?rest35
            case hoi35 => simp only [List.getElem?_toArray, List.getElem?_cons_succ, List.getElem?_cons_zero]; rfl
            case hq35 => exact fun _ _ _ h => h
            case hw35 => rfl
            case hy35 =>
              intro w hSw
              (try dsimp only at hSw)
              go_simp
              try with_reducible rfl
            try simp only [Act.put, List.setIfInBounds_toArray, List.set_cons_zero, List.set_cons_succ]
            refine wpAnyH_take (i := 36) (oi := ?oi36) (v := ?vv36) ?hoi36 (by kernel_rfl) (by kernel_rfl) (by kernel_rfl) ?hq36 (Or.inl ⟨?hw36, ?hy36⟩) (by assumption) ?rest36
            case hoi36 => simp only [List.getElem?_toArray, List.getElem?_cons_succ, List.getElem?_cons_zero]; rfl
            case hq36 => exact fun _ _ _ h => h
            case hw36 => rfl
            case hy36 =>
              intro w hSw
              (try dsimp only at hSw)
              go_simp
              try with_reducible rfl
            try simp only [Act.put, List.setIfInBounds_toArray, List.set_cons_zero, List.set_cons_succ]
            refine wpAnyH_take (i := 37) (oi := ?oi37) (v := ?vv37) ?hoi37 (by kernel_rfl) (by kernel_rfl) (by kernel_rfl) ?hq37 (Or.inl ⟨?hw37, ?hy37⟩) (by assumption) ?rest37
            case hoi37 => simp only [List.getElem?_toArray, List.getElem?_cons_succ, List.getElem?_cons_zero]; rfl
            case hq37 => exact fun _ _ _ h => h
            case hw37 => rfl
            case hy37 =>
              intro w hSw
              (try dsimp only at hSw)
              go_simp
              try with_reducible rfl
            try simp only [Act.put, List.setIfInBounds_toArray, List.set_cons_zero, List.set_cons_succ]
            refine wpAnyH_take (i := 39) (oi := ?oi39) (v := ?vv39) ?hoi39 (by kernel_rfl) (by kernel_rfl) (by kernel_rfl) ?hq39 (Or.inl ⟨?hw39, ?hy39⟩) (by assumption) ?rest39
            case hoi39 => simp only [List.getElem?_toArray, List.getElem?_cons_succ, List.getElem?_cons_zero]; rfl
            case hq39 => exact fun _ _ _ h => h
            case hw39 => rfl
            case hy39 =>
              intro w hSw
              (try dsimp only at hSw)
              go_simp
              try with_reducible rfl
            try simp only [Act.put, List.setIfInBounds_toArray, List.set_cons_zero, List.set_cons_succ]
            refine wpAnyH_take (i := 40) (oi := ?oi40) (v := ?vv40) ?hoi40 (by kernel_rfl) (by kernel_rfl) (by kernel_rfl) ?hq40 (Or.inl ⟨?hw40, ?hy40⟩) (by assumption) ?rest40
            case hoi40 => simp only [List.getElem?_toArray, List.getElem?_cons_succ, List.getElem?_cons_zero]; rfl
            case hq40 => exact fun _ _ _ h => h
            case hw40 => rfl
            case hy40 =>
              intro w hSw
              (try dsimp only at hSw)
              go_simp
              try with_reducible rfl
            try simp only [Act.put, List.setIfInBounds_toArray, List.set_cons_zero, List.set_cons_succ]
            refine wpAnyH_ready (rs := [38]) (by kernel_rfl) (by simp) ?_
            refine AllReadyH.cons (o := ?oo38) ?ho38 (fun K hK => ?step38) AllReadyH.nil
            case ho38 => simp only [List.getElem?_toArray, List.getElem?_cons_succ, List.getElem?_cons_zero]; rfl
            go_simp
            refine (orefs t RL _ (HDA.out.fst.keep0 (Keep.drew [] _)) HRT.out).mono ?_
            rw [HRN.out]
            rintro e w14 ⟨ra, rc, rfl, hI14, _, hK14⟩
            have hKa := (Keep.drew [] w13).trans hK14
            have HI14 := (show Hid (IntsAt w14 ra RL ∧ Keep [] w13 w14) from ⟨hI14, hKa⟩)
            obtain ⟨k1, k2, k3⟩ := HBK.out _ hKa
            obtain ⟨t0, t1⟩ := two_cells k1
            obtain ⟨t2, t3, t4, t5⟩ := four_cells k2
            obtain ⟨_, t6, t7, t8, t9, t10⟩ := five_free k3
            clear hI14 hK14 hKa k1 k2 k3
            refine hK.out _ _ ⟨t0, t1, t2, t3, t4, t5, t6, t7, t8, t9, t10⟩ (fun hHeld => ?_)
            clear hK K
            try simp only [Act.put, List.setIfInBounds_toArray, List.set_cons_zero, List.set_cons_succ]
            refine wpAnyH_ready (rs := [41]) (by kernel_rfl) (by simp) ?_
            refine AllReadyH.cons (o := ?oo41) ?ho41 (fun K hK => ?step41) AllReadyH.nil
            case ho41 => simp only [List.getElem?_toArray, List.getElem?_cons_succ, List.getElem?_cons_zero]; rfl
            go_simp
            refine (rrefs t RL _ (HDA.out.snd.keep0 HI14.out.2) HRT.out).mono ?_
            rw [HRN.out]
            rintro e w15 ⟨rb, rd, rfl, hI15, hK15⟩
            have hKb := HI14.out.2.trans hK15
            have HI15 := (show Hid (IntsAt w15 ra RL ∧ IntsAt w15 rb RL ∧ Keep [] w13 w15) from ⟨HI14.out.1.keep hK15 (fun _ _ _ => by simp), hI15, hKb⟩)
            obtain ⟨k1, k2, k3⟩ := HBK.out _ hKb
            obtain ⟨m0, m1⟩ := two_cells k1
            obtain ⟨m2, m3, m4, m5⟩ := four_cells k2
            obtain ⟨_, m6, m7, m8, m9, m10⟩ := five_free k3
            clear hI15 hK15 hKb k1 k2 k3
            refine hK.out _ _ ⟨m0, m1, m2, m3, m4, m5, m6, m7, m8, m9, m10⟩ (fun hHeld => ?_)
            clear hK K
            try simp only [Act.put, List.setIfInBounds_toArray, List.set_cons_zero, List.set_cons_succ]
            refine wpAnyH_ready (rs := [42]) (by kernel_rfl) (by simp) ?_
            refine AllReadyH.cons (o := ?oo42) ?ho42 (fun K hK => ?step42) AllReadyH.nil
            case ho42 => simp only [List.getElem?_toArray, List.getElem?_cons_succ, List.getElem?_cons_zero]; rfl
            go_simp
            refine (same_eq ra rb rn rc rd RL _ HI15.out.1 HI15.out.2.1 HRN.out hrl).mono ?_
            rintro e w16 ⟨rfl, hK16⟩
            have hKc := HI15.out.2.2.trans hK16
            have HKC := (show Hid (Keep [] w13 w16) from hKc)
            obtain ⟨k1, k2, k3⟩ := HBK.out _ hKc
            obtain ⟨n0, n1⟩ := two_cells k1
            obtain ⟨n2, n3, n4, n5⟩ := four_cells k2
            obtain ⟨_, n6, n7, n8, n9, n10⟩ := five_free k3
            clear hK16 hKc k1 k2 k3
            refine hK.out _ _ ⟨n0, n1, n2, n3, n4, n5, n6, n7, n8, n9, n10⟩ (fun hHeld => ?_)
            clear hK K
            try simp only [Act.put, List.setIfInBounds_toArray, List.set_cons_zero, List.set_cons_succ]
            refine wpAnyH_take (i := 43) (oi := ?oi43) (v := ?vv43) ?hoi43 (by kernel_rfl) (by kernel_rfl) (by kernel_rfl) ?hq43 (Or.inl ⟨?hw43, ?hy43⟩) (by assumption) ?rest43
            case hoi43 => simp only [List.getElem?_toArray, List.getElem?_cons_succ, List.getElem?_cons_zero]; rfl
            case hq43 => exact fun _ _ _ h => h
            case hw43 => rfl
            case hy43 =>
              intro w hSw
              (try dsimp only at hSw)
              go_simp
              try with_reducible rfl
            try simp only [Act.put, List.setIfInBounds_toArray, List.set_cons_zero, List.set_cons_succ]
            refine wpAnyH_take (i := 44) (oi := ?oi44) (v := ?vv44) ?hoi44 (by kernel_rfl) (by kernel_rfl) (by kernel_rfl) ?hq44 (Or.inl ⟨?hw44, ?hy44⟩) (by assumption) ?rest44
            case hoi44 => simp only [List.getElem?_toArray, List.getElem?_cons_succ, List.getElem?_cons_zero]; rfl
            case hq44 => exact fun _ _ _ h => h
            case hw44 => rfl
            case hy44 =>
              intro w hSw
              (try dsimp only at hSw)
              go_simp
              try with_reducible rfl
            try simp only [Act.put, List.setIfInBounds_toArray, List.set_cons_zero, List.set_cons_succ]
            refine wpAnyH_done (by kernel_rfl) ?_ _
            have HEND := (show Hid (Has w [] ((heapA hb ws kd ds).star (rheapA mb ws kd ds)) w16) from HDA.out.keep0 HKC.out)
            go_wp2_with fail
            go_roundw
            case rel => exact ⟨j + 1, ws, kd, ds, by go_num, by omega, HEND⟩
            case measure => simp [intOf]; omega
        · as_aux_lemma =>
            subst hE ho
            clear HOK
            go_region_held3 (fun wz => wz.cell? ⟨b1, 0, none⟩ = some (.int .i64 FN) ∧ wz.cell? ⟨b1, 1, none⟩ = some (.int .i64 FE) ∧ wz.cell? ⟨b2, 0, none⟩ = some (.int .i64 hk) ∧ wz.cell? ⟨b2, 1, none⟩ = some (.int .i64 hc) ∧ wz.cell? ⟨b2, 2, none⟩ = some (.int .i64 hl) ∧ wz.cell? ⟨b2, 3, none⟩ = some (.bool hf) ∧ wz.cell? ⟨b3, 0, none⟩ = some (.int .i64 hk) ∧ wz.cell? ⟨b3, 1, none⟩ = some (.int .i64 hc) ∧ wz.cell? ⟨b3, 2, none⟩ = some (.int .i64 hl) ∧ wz.cell? ⟨b3, 3, none⟩ = some (.bool hf) ∧ wz.cell? ⟨b3, 4, none⟩ = some (.bool false)) (go_keep) (first | (go_at_call 10; refine (err_any _ _).mono ?_; rintro e w' ⟨rfl, rfl⟩) | (go_at_call 29; refine (orefs t RL _ (HDA.out.fst.keep0 (Keep.drew [] _)) HRT.out).mono ?_; rw [HRN.out]; rintro e w14 ⟨ra, rc, rfl, hI14, _, hK14⟩; have hKa := (Keep.drew [] w13).trans hK14; have HI14 := (show Hid (IntsAt w14 ra RL ∧ Keep [] w13 w14) from ⟨hI14, hKa⟩); obtain ⟨k1, k2, k3⟩ := HBK.out _ hKa; obtain ⟨x0', x1'⟩ := two_cells k1; obtain ⟨y0', y1', y2', y3'⟩ := four_cells k2; obtain ⟨_, z0', z1', z2', z3', z4'⟩ := five_free k3; clear hI14 hK14 hKa k1 k2 k3) | (go_at_call 30; refine (rrefs t RL _ (HDA.out.snd.keep0 HI14.out.2) HRT.out).mono ?_; rw [HRN.out]; rintro e w15 ⟨rb, rd, rfl, hI15, hK15⟩; have hKb := HI14.out.2.trans hK15; have HI15 := (show Hid (IntsAt w15 ra RL ∧ IntsAt w15 rb RL ∧ Keep [] w13 w15) from ⟨HI14.out.1.keep hK15 (fun _ _ _ => by simp), hI15, hKb⟩); obtain ⟨k1, k2, k3⟩ := HBK.out _ hKb; obtain ⟨x0'', x1''⟩ := two_cells k1; obtain ⟨y0'', y1'', y2'', y3''⟩ := four_cells k2; obtain ⟨_, z0'', z1'', z2'', z3'', z4''⟩ := five_free k3; clear hI15 hK15 hKb k1 k2 k3) | (go_at_call 28; refine (same_eq ra rb rn rc rd RL _ HI15.out.1 HI15.out.2.1 HRN.out hrl).mono ?_; rintro e w16 ⟨rfl, hK16⟩; have hKc := HI15.out.2.2.trans hK16; have HKC := (show Hid (Keep [] w13 w16) from hKc); obtain ⟨k1, k2, k3⟩ := HBK.out _ hKc; obtain ⟨m0, m1⟩ := two_cells k1; obtain ⟨n0, n1, n2, n3⟩ := four_cells k2; obtain ⟨_, r0, r1, r2, r3, r4⟩ := five_free k3; clear hK16 hKc k1 k2 k3))
            have HEND := (show Hid (Has w [] ((heapA hb ws kd ds).star (rheapA mb ws kd ds)) w16) from HDA.out.keep0 HKC.out)
            go_wp2_with fail
            go_roundw
            case rel => exact ⟨j + 1, ws, kd, ds, by go_num, by omega, HEND⟩
            case measure => simp [intOf]; omega
    · as_aux_lemma =>
      obtain ⟨sb, tb, c0, _⟩ := HR.out.fst.ptrs
      obtain ⟨sm, c1⟩ := HR.out.snd.rptr
      have hfi := HR.out.fst.fine
      have hnb : (eachK kd).length ≤ 32 * kd.length := hfi.wf.each_len kd.length
      have hn2 := hfi.wf.len2
      have HFI := (show Hid (Fine ws kd ds) from hfi)
      obtain ⟨on, hon⟩ : ∃ on, (eachK kd).length = on := ⟨_, rfl⟩
      have HON := (show Hid ((eachK kd).length = on) from hon)
      rw [hon] at hnb
      obtain ⟨us, hus⟩ : ∃ us, usedK kd = us := ⟨_, rfl⟩
      have HUS := (show Hid (usedK kd = us) from hus)
      have hon2 : on ≤ 1000000 := by omega
      have HPT := (show Hid (∀ w', Keep [] w3 w' → w'.cell? ⟨hb, 0, none⟩ = some (.pointer (some ⟨sb, 0, none⟩)) ∧ w'.cell? ⟨mb, 0, none⟩ = some (.pointer (some ⟨sm, 0, none⟩))) from fun w' K => ⟨(K.cell (lt_of_cell2 c0) (by simp) 0).trans c0, (K.cell (lt_of_cell2 c1) (by simp) 0).trans c1⟩)
      clear hfi hon hus hnb hn2
      rcases (show (¬ j < n) ∨ (j < n ∧ ¬ j < 60) by have := HNO.out; omega) with hjn | ⟨hjn, hj6⟩
      all_goals (
        go_upto_region 39 with fail
        go_region_held3 (fun wz => wz.cell? ⟨hb, 0, none⟩ = some (.pointer (some ⟨sb, 0, none⟩)) ∧ wz.cell? ⟨mb, 0, none⟩ = some (.pointer (some ⟨sm, 0, none⟩))) (go_keep) (first | (go_at_call 12; refine (oobjects _ (HR.out.fst.keep0 (Keep.drew [] _))).mono ?_; rw [HON.out]; rintro e w4 ⟨va, vc, vs, rfl, hO4, hvs, hK4⟩; have hKa := (Keep.drew [] w3).trans hK4; have HO4 := (show Hid (ObjL w4 va on (vs.map OV.rv) ∧ (vs.map OV.rv).map RV.o = objsK kd ws ∧ Keep [] w3 w4) from ⟨hO4.read (objs_ok HFI.out hvs), by rw [← hvs, List.map_map]; rfl, hKa⟩); obtain ⟨k1, k2⟩ := HPT.out _ hKa; clear hO4 hvs hK4 hKa) | (go_at_call 32; refine (robjects _ (HR.out.snd.keep0 HO4.out.2.2)).mono ?_; rw [HON.out]; rintro e w5 ⟨vb, vd, us5, rfl, hO5, hvs5, hK5⟩; have HO5 := (show Hid (ObjL w5 va on (vs.map OV.rv) ∧ ObjL w5 vb on us5 ∧ (vs.map OV.rv).map RV.o = us5.map RV.o ∧ Keep [] w3 w5) from ⟨HO4.out.1.keep0 hK5, hO5, HO4.out.2.1.trans hvs5.symm, HO4.out.2.2.trans hK5⟩); obtain ⟨l1, l2⟩ := HPT.out _ HO5.out.2.2.2; clear hO5 hvs5 hK5) | (go_at_call 31; refine (sameObjs va vb on vc vd _ us5 _ HO5.out.1 HO5.out.2.1 HO5.out.2.2.1 hon2).mono ?_; rintro e w6 ⟨rfl, hK6⟩; have HK6 := (show Hid (Keep [] w3 w6) from HO5.out.2.2.2.trans hK6); obtain ⟨m1, m2⟩ := HPT.out _ HK6.out; clear hK6) | (go_at_call 33; refine (oused sb _ (HR.out.fst.keep0 HK6.out) m1).mono ?_; rw [HUS.out]; rintro e w7 ⟨rfl, hK7⟩; have HK7 := (show Hid (Keep [] w3 w7) from HK6.out.trans hK7); obtain ⟨n1, n2⟩ := HPT.out _ HK7.out; clear hK7) | (go_at_call 34; refine (rused2 sm _ (HR.out.snd.keep0 HK7.out) n2).mono ?_; rw [HUS.out]; rintro e w8 ⟨rfl, hK8⟩; have HK8 := (show Hid (Keep [] w3 w8) from HK7.out.trans hK8); obtain ⟨r1, r2⟩ := HPT.out _ HK8.out; clear hK8))
        go_wp2_with fail
        go_ret
        exact ⟨rfl, hKw.trans HK8.out⟩)

end Go.Proofs.YtdpaffnpedcmpaaGreat
