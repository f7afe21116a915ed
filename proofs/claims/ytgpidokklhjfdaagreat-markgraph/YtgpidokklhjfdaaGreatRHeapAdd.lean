/-
  The document's own heap: Add.
-/
import Derived.Test.YtgpidokklhjfdaaGreatPart6
import Derived.Test.YtgpidokklhjfdaaGreatAwake7
import Derived.Test.YtgpidokklhjfdaaGreatAwake9
namespace Go.Proofs.YtgpidokklhjfdaaGreat
open Go.RowKit

/-- append onto a row of one's own that is empty, at a step of a region that draws: whatever is appended. -/
theorem step_append_own0 {P : Program} {w : World} {ops : Array Oper} {o : Oper} {a : Act} {K : Act → World → Prop} {Q : Exit → Act → World → Prop} {E : Prop} (hgd : o.guard = none) (s x : Operand) (t : TypeId)
    (ho : o.op = .call { callee := .builtin .append, args := #[s, x], argTypes := #[t, t] })
    (base : Nat) (e : TypeId) (i : TypeInfo) (ht : P.underlying t = some (.slice e)) (hi : P.info? e = some i ∧ i.zero = some (.int .i64 0) ∧ i.size = 1 ∧ i.bytes = 8)
    (L : List Int) (g : Nat) (hs : a.eval s = .slice (some ⟨g, 0, none⟩) 0 0) (hown : w.ownsRow base e 1 (.slice (some ⟨g, 0, none⟩) 0 0) 0 (ints [])) (hbase : base ≤ w.heap.size) (xa : Option Addr) (m c : Nat) (hm : L.length = m)
    (hx : a.eval x = .slice xa m c) (hM : IntsAt w xa L) (hc : xa = none → c = 0) (hl : m ≤ 1000000)
    (h : ∀ la lc w', IntsAt w' la L → (la = none → lc = 0) → (∀ a, la = some a → base ≤ a.block ∧ a.block < w'.heap.size) → w.grownBy w' (some g) → K (a.put o.dst (.slice la m lc)) w') :
    if Region.wanted o (yielded ops a.tmps) = true then Oper.wp P o a w K Q else E := by
  have hw : Region.wanted o (yielded ops a.tmps) = true := by simp [Region.wanted, hgd]
  rw [if_pos hw]
  obtain ⟨h1, h2, h3, h4⟩ := hi
  subst hm
  cases xa with
  | none =>
    have h0 : L = [] := by
      rcases Nat.eq_zero_or_pos L.length with h0 | h0
      · exact List.length_eq_zero_iff.1 h0
      · obtain ⟨_, _, e, _⟩ := hM.cells h0; cases e
    subst h0
    obtain rfl := hc rfl
    have hrun := run_append_owned_none (P := P) (w := w) base t o.type e i 1 ht h1 (.slice (some ⟨g, 0, none⟩) 0 0) 0 _ hown
    unfold Oper.wp
    simp at hx
    simp [execOp, ho, resolve, invoke, builtin, hs, hx, hrun, Result.andThen]
    refine h _ _ _ (IntsAt.nil _ _) (by simp) (fun a e => ?_) (grown_refl _ _)
    cases e
    rcases own_ints hown (by simp) with ⟨e, _⟩ | ⟨g', cap, e1, _, e2, e3, _⟩
    · cases e
    · cases e1; exact ⟨e2, e3⟩
  | some ad =>
    refine wp_append_own w s x t ho base e i (.int .i64 0) 1 8 ht h1 h2 h3 h4 rfl (by decide) _ 0 _ hs hown ad L.length c (ints L) hx (by rw [ints_length]; omega) ?_ (ints_one _) (by unfold maxLen; omega) (by omega) hbase ?_
    · intro j u hu
      have hj : j < L.length := by
        rcases Nat.lt_or_ge j L.length with hj | hj
        · exact hj
        · rw [List.getElem?_eq_none (by rw [ints_length]; exact hj)] at hu; cases hu
      obtain ⟨b, off, e1, _, hcell⟩ := hM.cells (by omega)
      cases e1
      rw [ints_get L j hj] at hu
      rw [Go.WideShapes.add_plain, hcell j hj]; exact hu
    · intro v' w' hown' hg _
      rw [show ints ([] : List Int) = [] from rfl, List.nil_append, Nat.zero_add] at hown'
      obtain ⟨la, lc, rfl, _, hI, hb, hn⟩ := own_form hown' (fun i => ⟨hM.low i, hM.high i⟩)
      exact h la lc w' hI hn hb hg

set_option maxRecDepth 100000 in
set_option maxHeartbeats 800000 in
theorem radd_arg (hb : Nat) (f : Int) (ao : Option Addr) (n c : Nat) (L : List Int) (w : World) (hA : IntsAt w ao L) (hn : L.length = n) (hbd : n ≤ 1000000) (hm : mayB f L = false) :
    Calls Tryz.prog 29 #[.pointer (some ⟨hb, 0, none⟩), .agg #[.int .i64 f, .slice ao n c]] w fun e w' => e = .returned (.agg #[.int .i64 0, .int .i64 1]) ∧ Keep [] w w' := by
  have hK := (Keep.alloc [] w (.cells #[.int .i64 f, .slice ao n c] 76)).trans (Keep.alloc [] _ (.cells #[.int .i64 0, .int .i64 0] 73))
  have hx := (Keep.alloc [] (w.alloc (.cells #[.int .i64 f, .slice ao n c] 76)) (.cells #[.int .i64 0, .int .i64 0] 73)).blk (heap_alloc_new w (.cells #[.int .i64 f, .slice ao n c] 76)) (by simp)
  have hy := second_block w (.cells #[.int .i64 f, .slice ao n c] 76) #[.int .i64 0, .int .i64 0] 73
  have HN := (show Hid (L.length = n) from hn)
  have HM := (show Hid (mayB f L = false) from hm)
  have HA := (show Hid (IntsAt w ao L) from hA)
  clear hA hn hm
  go_enter Tryz.func29, Tryz.ntmps29
  go_upto_region 1 with fail
  generalize (w.alloc (.cells #[.int .i64 f, .slice ao n c] 76)).alloc (.cells #[.int .i64 0, .int .i64 0] 73) = w2 at *
  obtain ⟨bz, hbz⟩ : ∃ bz, w.heap.size + 1 = bz := ⟨_, rfl⟩
  have HBZ := (show Hid (w.heap.size + 1 = bz) from hbz)
  rw [hbz] at hy ⊢
  clear hbz
  obtain ⟨p0, p1⟩ := two_cells hx
  go_wp2_with (first | (go_at_call 60; refine (rmay_any f ao n c L _ (HA.out.keep hK (by simp [Off])) HN.out hbd).mono ?_; rw [HM.out]; rintro e w3 ⟨rfl, hK3⟩; have hy3 := hK3.blk hy (by simp); obtain ⟨d0, d1⟩ := two_cells hy3; obtain ⟨f0, f1⟩ := two_free hy3))
  obtain ⟨z, hk4⟩ := two_put hy3 (.int .i64 0) (.int .i64 1)
  refine bodyPost_ret (results_cell_row rfl _ _ bz 73 #[.int .i64 0, .int .i64 1] (0, 0) _ rfl z Tryz.underlying73 rfl (by kernel_rfl)) rfl ?_
  exact ⟨rfl, (((hK.trans hK3).mono (T := [bz]) (by simp)).trans hk4).drop (by have := HBZ.out; simp; omega)⟩
set_option maxRecDepth 100000 in
set_option maxHeartbeats 800000 in
theorem radd_full (hb mb : Nat) (F : List Nat) (ds : List (Int × List Int)) (f : Int) (ao : Option Addr) (n c : Nat) (L : List Int) (w : World) (h : IsRTab w hb mb F ds) (hA : IntsAt w ao L) (hn : L.length = n) (hbd : n ≤ 1000000) (hm : mayB f L = true) (hf : 256 ≤ ds.length) :
    Calls Tryz.prog 29 #[.pointer (some ⟨hb, 0, none⟩), .agg #[.int .i64 f, .slice ao n c]] w fun e w' => e = .returned (.agg #[.int .i64 0, .int .i64 3]) ∧ Keep [] w w' := by
  have hK := (Keep.alloc [] w (.cells #[.int .i64 f, .slice ao n c] 76)).trans (Keep.alloc [] _ (.cells #[.int .i64 0, .int .i64 0] 73))
  have hx := (Keep.alloc [] (w.alloc (.cells #[.int .i64 f, .slice ao n c] 76)) (.cells #[.int .i64 0, .int .i64 0] 73)).blk (heap_alloc_new w (.cells #[.int .i64 f, .slice ao n c] 76)) (by simp)
  have hy := second_block w (.cells #[.int .i64 f, .slice ao n c] 76) #[.int .i64 0, .int .i64 0] 73
  have HN := (show Hid (L.length = n) from hn)
  have HM := (show Hid (mayB f L = true) from hm)
  have HA := (show Hid (IntsAt w ao L) from hA)
  have HT := (show Hid (IsRTab w hb mb F ds) from h)
  clear hA hn hm h
  go_enter Tryz.func29, Tryz.ntmps29
  go_upto_region 1 with fail
  generalize (w.alloc (.cells #[.int .i64 f, .slice ao n c] 76)).alloc (.cells #[.int .i64 0, .int .i64 0] 73) = w2 at *
  obtain ⟨bz, hbz⟩ : ∃ bz, w.heap.size + 1 = bz := ⟨_, rfl⟩
  have HBZ := (show Hid (w.heap.size + 1 = bz) from hbz)
  rw [hbz] at hy ⊢
  clear hbz
  obtain ⟨p0, p1⟩ := two_cells hx
  go_wp2_with (first | (go_at_call 60; refine (rmay_any f ao n c L _ (HA.out.keep hK (by simp [Off])) HN.out hbd).mono ?_; rw [HM.out]; rintro e w3 ⟨rfl, hK3⟩; have hy3 := hK3.blk hy (by simp); obtain ⟨d0, d1⟩ := two_cells hy3; obtain ⟨f0, f1⟩ := two_free hy3; obtain ⟨va, vc, cs, h1, e1⟩ := HT.out.keep (hK.trans hK3) (by simp); have hcell := h1.cell; have hlen : cs.length = ds.length := (by rw [e1, List.length_map]); rw [hlen] at hcell; generalize ds.length = dl at hcell hf; clear h1 e1 hlen))
  obtain ⟨z, hk4⟩ := two_put hy3 (.int .i64 0) (.int .i64 3)
  refine bodyPost_ret (results_cell_row rfl _ _ bz 73 #[.int .i64 0, .int .i64 3] (0, 0) _ rfl z Tryz.underlying73 rfl (by kernel_rfl)) rfl ?_
  exact ⟨rfl, (((hK.trans hK3).mono (T := [bz]) (by simp)).trans hk4).drop (by have := HBZ.out; simp; omega)⟩
theorem RTabAt.far4 {F : List Nat} {w w4 : World} {tb mb vc : Nat} {va : Option Addr} {cs : List CV} {o : Obj} (h : RTabAt w tb mb va vc F cs) (hg : (w.alloc o).grownBy w4 (Value.slice va cs.length vc).ownBlock) :
    w4.cell? ⟨tb, 1, none⟩ = some (.slice va cs.length vc) ∧ w4.frozen? ⟨tb, 1, none⟩ = false := by
  have htb := h.lt _ h.tF
  have e : w4.heap[tb]? = some (.cells #[.pointer (some ⟨mb, 0, none⟩), .slice va cs.length vc] 90 (0, 0)) := by
    rw [← h.head]
    refine (hg.block tb (by simp; omega) (fun e => ?_)).trans (Below.heap_alloc _ _ _ htb)
    cases va with
    | none => simp [Value.ownBlock] at e
    | some a => simp [Value.ownBlock] at e; exact (h.vF a rfl).2 e.symm
  exact ⟨by simp [World.cell?, e], by simp [World.frozen?, e]⟩

set_option maxRecDepth 100000 in
set_option maxHeartbeats 3200000 in
theorem radd_yes (hb mb : Nat) (F : List Nat) (ds : List (Int × List Int)) (f : Int) (ao : Option Addr) (n c : Nat) (L : List Int) (w : World) (h : IsRTab w hb mb F ds) (hA : IntsAt w ao L) (hc : ao = none → c = 0) (hn : L.length = n) (hbd : n ≤ 1000000) (hm : mayB f L = true) (hf : ds.length < 256) :
    Calls Tryz.prog 29 #[.pointer (some ⟨hb, 0, none⟩), .agg #[.int .i64 f, .slice ao n c]] w fun e w' => e = .returned (.agg #[.int .i64 ((ds.length : Int) + 1), .int .i64 0]) ∧ (∃ F', IsRTab w' hb mb F' (ds ++ [(f, L)]) ∧ ∀ k, k ∈ F' → k ∈ F ∨ w.heap.size ≤ k) ∧ Keep F w w' := by
  obtain ⟨i0, hi, hz0, hz1, hz2⟩ := info_parts Tryz.infoClass
  have hI : Hid (Tryz.prog.info? 76 = some i0 ∧ i0.zero = some (.agg #[.int .i64 0, .slice none 0 0]) ∧ i0.size = 2 ∧ i0.bytes = 32) := ⟨hi, hz0, hz1, hz2⟩
  clear hi hz0 hz1 hz2
  obtain ⟨j0, hi, hz0, hz1, hz2⟩ := info_parts Tryz.infoIntC
  have hJ : Hid (Tryz.prog.info? 3 = some j0 ∧ j0.zero = some (.int .i64 0) ∧ j0.size = 1 ∧ j0.bytes = 8) := ⟨hi, hz0, hz1, hz2⟩
  clear hi hz0 hz1 hz2
  have hK := (Keep.alloc [] w (.cells #[.int .i64 f, .slice ao n c] 76)).trans (Keep.alloc [] _ (.cells #[.int .i64 0, .int .i64 0] 73))
  have hx := (Keep.alloc [] (w.alloc (.cells #[.int .i64 f, .slice ao n c] 76)) (.cells #[.int .i64 0, .int .i64 0] 73)).blk (heap_alloc_new w (.cells #[.int .i64 f, .slice ao n c] 76)) (by simp)
  have hy := second_block w (.cells #[.int .i64 f, .slice ao n c] 76) #[.int .i64 0, .int .i64 0] 73
  have HN := (show Hid (L.length = n) from hn)
  have HM := (show Hid (mayB f L = true) from hm)
  have HA := (show Hid (IntsAt w ao L) from hA)
  have HT := (show Hid (IsRTab w hb mb F ds) from h)
  have HC := (show Hid (ao = none → c = 0) from hc)
  have HB := (show Hid (∀ k, k ∈ F → k < w.heap.size) from h.lt)
  clear hA hn hm h hc
  go_enter Tryz.func29, Tryz.ntmps29
  go_upto_region 1 with fail
  generalize (w.alloc (.cells #[.int .i64 f, .slice ao n c] 76)).alloc (.cells #[.int .i64 0, .int .i64 0] 73) = w2 at *
  obtain ⟨bz, hbz⟩ : ∃ bz, w.heap.size + 1 = bz := ⟨_, rfl⟩
  obtain ⟨bx, hbx⟩ : ∃ bx, w.heap.size = bx := ⟨_, rfl⟩
  have HBZ := (show Hid (w.heap.size + 1 = bz ∧ w.heap.size = bx) from ⟨hbz, hbx⟩)
  rw [hbz] at hy ⊢
  rw [hbx] at hx ⊢
  clear hbz hbx
  obtain ⟨p0, p1⟩ := two_cells hx
  go_upto_region 5 with (first | (go_at_call 60; refine (rmay_any f ao n c L _ (HA.out.keep hK (by simp [Off])) HN.out hbd).mono ?_; rw [HM.out]; rintro e w1 ⟨rfl, hK1⟩; obtain ⟨va, vc, cs, h1, e1⟩ := HT.out.keep (hK.trans hK1) (by simp); have hcell := h1.cell; have hlen : cs.length = ds.length := (by rw [e1, List.length_map]); have HLN := (show Hid (cs.length = ds.length) from hlen); rw [hlen] at hcell; have HTA := (show Hid (RTabAt w1 hb mb va vc F cs) from h1); have HE := (show Hid (ds = cs.map CV.d) from e1); clear h1 e1 hlen))
  have hKw := hK.trans hK1
  have hx1 := hK1.blk hx (by simp)
  have hy1 := hK1.blk hy (by simp)
  have hKE := (Keep.alloc [] w1 (.cells #[] 3)).trans (Keep.drew [] _)
  have HAE := (show Hid (IntsAt ((w1.alloc (.cells #[] 3)).drew) ao L) from HA.out.keep (hKw.trans hKE) (by simp [Off]))
  obtain ⟨c0, c1⟩ := two_cells hx1
  obtain ⟨e0, e1⟩ := two_cells (hKE.blk hx1 (by simp))
  obtain ⟨dl, hdl⟩ : ∃ dl, ds.length = dl := ⟨_, rfl⟩
  rw [hdl] at hf hcell ⊢
  have HDL := (show Hid (cs.length = dl) from by show _ = _; rw [HLN.out]; exact hdl)
  have hcellE := (hKE.cell (lt_of_cell2 hcell) (by simp) 1).trans hcell
  have HOE := (show Hid (((w1.alloc (.cells #[] 3)).drew).ownsRow w1.heap.size 3 1 (.slice (some ⟨w1.heap.size, 0, none⟩) 0 0) 0 (ints [])) from own_empty w1 3)
  have HB1 := (show Hid (∀ k, k ∈ F → k < w1.heap.size) from fun k hk => Nat.lt_of_lt_of_le (HB.out k hk) hKw.size)
  have HX1 := (show Hid (w1.heap[bx]? = some (.cells #[.int .i64 f, .slice ao n c] 76 (0, 0)) ∧ w1.heap[bz]? = some (.cells #[.int .i64 0, .int .i64 0] 73 (0, 0)) ∧ Keep [] w w1) from ⟨hx1, hy1, hKw⟩)
  clear hx hy hx1 hy1 hK hK1 p0 p1 hKw HA HT
  go_cut [] from 16 to 31 (fun wz => Hid ((∃ F', IsRTab wz hb mb F' (ds ++ [(f, L)]) ∧ (∀ k, k ∈ F' → k ∈ F ∨ w1.heap.size ≤ k)) ∧ Keep F w1 wz))
  case first =>
    go_region_law (first
      | (refine step_append_lies _ rfl (.tmp 20) (.tmp 28) 88 rfl 0 76 i0 (.agg #[.int .i64 0, .slice none 0 0]) 2 32 Tryz.underlying88 hI.out.1 hI.out.2.1 hI.out.2.2.1 hI.out.2.2.2 rfl (by decide) (.slice va dl vc) dl (flat cs) rfl HO3.out ⟨w3.heap.size, 0, none⟩ 1 1 [.int .i64 f, .slice la n lc] rfl rfl (World.news_of_block (heap_alloc_new w3 _)) (oneCells f la n lc) (by omega) (by unfold maxLen; omega) (by omega) (by omega) (w3.heap.size + 1) (by simp) ?_; intro g cap w4 hown hgrow hat hlt; have HADD := (show Hid (RTabAt (w4.setCell ⟨hb, 1, none⟩ (.slice (some ⟨g, 0, none⟩) (cs.length + 1) cap)) hb mb (some ⟨g, 0, none⟩) cap (g :: (la.toList.map (·.block) ++ F)) (cs ++ [⟨f, la, lc, L⟩]) ∧ Keep F w3 (w4.setCell ⟨hb, 1, none⟩ (.slice (some ⟨g, 0, none⟩) (cs.length + 1) cap))) from RTabAt.added (B := w1.heap.size) HT3.out HB1.out HG.out.1 HG.out.2.1 HG.out.2.2.1 HG.out.2.2.2.1 HG.out.2.2.2.2 (by rw [HDL.out, HN.out]; exact hown) (by rw [HDL.out]; exact hgrow) (by rw [HDL.out]; exact hat) hlt); have HGB := (show Hid (g ∈ F ∨ w1.heap.size ≤ g) from HGW.out g hat); obtain ⟨hcell4, hfree4⟩ := HT3.out.far4 (by rw [HDL.out]; exact hgrow); rw [HDL.out] at hcell4; clear hown hgrow hat hlt)
      | (refine step_append_own0 rfl (.tmp 23) (.tmp 25) 25 rfl w1.heap.size 3 j0 Tryz.underlying25 hJ.out L w1.heap.size rfl HOE.out (by simp) ao n c HN.out rfl HAE.out HC.out hbd ?_; intro la lc w3 hG1 hG2 hG3 hgr; have hK3 : Keep [] w1 w3 := (hKE.grown hgr (fun k e => by cases e; exact Nat.le_refl _)); have hT3 := HTA.out.keep hK3 (by simp); have hcell3 := hT3.cell; rw [HDL.out] at hcell3; have hx3 := hK3.blk HX1.out.1 (by simp); obtain ⟨d0, d1⟩ := two_cells hx3; have hcell3a : (w3.alloc (.cells #[.int .i64 f, .slice la n lc] 76)).cell? ⟨hb, 1, none⟩ = some (.slice va dl vc) := ((Keep.alloc [] w3 _).cell (hT3.lt _ hT3.tF) (by simp) 1).trans hcell3; have HT3 := (show Hid (RTabAt w3 hb mb va vc F cs) from hT3); have HK3 := (show Hid (Keep [] w1 w3) from hK3); have HO3 := (show Hid ((w3.alloc (.cells #[.int .i64 f, .slice la n lc] 76)).ownsRow 0 76 2 (.slice va dl vc) dl (flat cs)) from (by have := hT3.own.alloc (.cells #[.int .i64 f, .slice la n lc] 76); rw [HDL.out] at this; exact this)); have HG := (show Hid (IntsAt w3 la L ∧ (la = none → lc = 0) ∧ L.length ≤ 1000000 ∧ (∀ a, la = some a → w1.heap.size ≤ a.block ∧ a.block < w3.heap.size) ∧ w1.heap.size ≤ w3.heap.size) from ⟨hG1, hG2, (by rw [HN.out]; exact hbd), hG3, hK3.size⟩); have HGW := (show Hid (∀ g, (Value.slice va dl vc).ownBlock = some g ∨ g = w3.heap.size + 1 → g ∈ F ∨ w1.heap.size ≤ g) from (by
          intro g hg
          rcases hg with e | e
          · left
            cases va with
            | none => simp [Value.ownBlock] at e
            | some a => simp [Value.ownBlock] at e; rw [← e]; exact (hT3.vF a rfl).1
          · right
            have := hK3.size
            omega)); clear hT3 hG1 hG2 hG3 hgr))
    all_goals (
      go_wp2_with fail
      go_meet
      obtain ⟨hA1, hA2⟩ := HADD.out
      rw [HDL.out] at hA1 hA2
      refine ⟨⟨_, ⟨_, _, _, hA1, by rw [HE.out]; simp [CV.d]⟩, ?_⟩, (HK3.out.mono (by simp)).trans hA2⟩
      intro k hk
      simp at hk
      rcases hk with rfl | ⟨a, e, rfl⟩ | hk
      · exact HGB.out
      · right
        exact (HG.out.2.2.2.1 a e).1
      · exact .inl hk)
  case rest =>
    obtain ⟨⟨F', hT5, hF5⟩, hK5⟩ := hcut.out
    have HT5 := (show Hid (IsRTab wc hb mb F' (ds ++ [(f, L)]) ∧ (∀ k, k ∈ F' → k ∈ F ∨ w1.heap.size ≤ k) ∧ Keep F w1 wc) from ⟨hT5, hF5, hK5⟩)
    obtain ⟨va5, vc5, cs5, h5, e5⟩ := hT5
    have hcell5 := h5.cell
    have hl5 : cs5.length = dl + 1 := by
      have := congrArg List.length e5
      rw [List.length_append, List.length_map, hdl] at this
      simpa using this.symm
    rw [hl5] at hcell5
    have hy5 := hK5.blk HX1.out.2.1 (fun e => by have := HB.out bz e; have := HBZ.out; omega)
    obtain ⟨d0, d1⟩ := two_cells hy5
    obtain ⟨f0, f1⟩ := two_free hy5
    clear h5 e5 hl5 hF5 hK5 hcell hcellE c0 c1 e0 e1 hKE hdl
    go_wp2_with fail
    obtain ⟨z, hk4⟩ := two_put hy5 (.int .i64 ((dl : Int) + 1)) (.int .i64 0)
    refine bodyPost_ret (results_cell_row rfl _ _ bz 73 #[.int .i64 ((dl : Int) + 1), .int .i64 0] (0, 0) _ rfl z Tryz.underlying73 rfl (by kernel_rfl)) rfl ?_
    obtain ⟨q1, q2, q3⟩ := HT5.out
    have hw1 := HX1.out.2.2.size
    have hbz := lt_of_block HX1.out.2.1
    obtain ⟨hb1, hb2⟩ := HBZ.out
    have hdl : ds.length = dl := HLN.out.symm.trans HDL.out
    refine ⟨by rw [hdl], ⟨F', q1.keep hk4 (fun k hk e => ?_), fun k hk => ?_⟩, ?_⟩
    · simp at e
      subst e
      rcases q2 k hk with e | e
      · have := HB.out k e; omega
      · omega
    · rcases q2 k hk with e | e
      · exact .inl e
      · right; omega
    · have K := ((HX1.out.2.2.mono (T := F) (by simp)).trans q3)
      refine ⟨hk4.os.trans K.os, hk4.tape.trans K.tape, hk4.output.trans K.output, Nat.le_trans K.size hk4.size, fun k hk hS => ?_⟩
      rw [hk4.block k (Nat.lt_of_lt_of_le hk K.size) (by simp; omega), K.block k hk hS]
section
variable {w0 : World} {F0 : List Nat} {hb mb : Nat} {ws : List Int} {kd : List PK} {ds : List (Int × List Int)}
theorem radd (f : Int) (ao : Option Addr) (n c : Nat) (L : List Int) (w : World) (h : Has w0 F0 (rheapA hb ws kd ds) w) (hA : IntsAt w ao L) (hc : ao = none → c = 0) (hn : L.length = n) (hbd : n ≤ 1000000) :
    Calls Tryz.prog 29 #[.pointer (some ⟨hb, 0, none⟩), .agg #[.int .i64 f, .slice ao n c]] w fun e w' => e = .returned (.agg #[.int .i64 (addN ds f L), .int .i64 (addE ds f L)]) ∧ Has w0 F0 (rheapA hb ws kd (addR ds f L)) w' := by
  have hf' := h.rfine.add f L
  obtain ⟨mb, hr⟩ := h.rraw
  cases hm : mayB f L with
  | false =>
    refine (radd_arg hb f ao n c L w hA hn hbd hm).mono ?_
    rintro e w' ⟨rfl, hK⟩
    refine ⟨by simp [addN, addE, hm], ?_⟩
    have e : addR ds f L = ds := by simp [addR, hm]
    rw [e]; exact h.keep0 hK
  | true =>
    by_cases hf : ds.length < 256
    · obtain ⟨G, ⟨F1, F2, hF, h1, h2, hd⟩, u⟩ := hr
      refine (radd_yes hb mb F1 ds f ao n c L w h1 hA hc hn hbd hm hf).mono ?_
      rintro e w' ⟨rfl, ⟨F', hT, hG⟩, hK⟩
      have e : addR ds f L = ds ++ [(f, L)] := by simp [addR, hm, hf]
      rw [e] at hf' ⊢
      obtain ⟨G2, g3, g4⟩ := star_left (A' := rtabA hb mb (ds ++ [(f, L)])) (B := rspaceA mb ws kd) hF hd h2 hT ⟨hK, hG⟩
      exact ⟨by simp [addN, addE, hm, hf], Has.rheap ⟨G2, g3, u.trans g4⟩ hf'⟩
    · obtain ⟨G, hT⟩ := hr.rtab
      refine (radd_full hb mb G ds f ao n c L w hT hA hn hbd hm (by omega)).mono ?_
      rintro e w' ⟨rfl, hK⟩
      refine ⟨by simp [addN, addE, hm, hf], ?_⟩
      have e : addR ds f L = ds := by simp [addR, hm, hf]
      rw [e]; exact h.keep0 hK
end

end Go.Proofs.YtgpidokklhjfdaaGreat
