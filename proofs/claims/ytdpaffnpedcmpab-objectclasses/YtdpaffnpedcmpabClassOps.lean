/-
  Class, Add and Of of package class.
-/
import Derived.Test.YtdpaffnpedcmpabClass
namespace Go.Proofs.Ytdpaffnpedcmpab
open Go.RowKit

set_option maxHeartbeats 800000 in
theorem tclass_no (tb : Nat) (F : List Nat) (ds : List (Int × List Int)) (id : Int) (w : World) (h : IsTab w tb F ds) (hid : id < 1 ∨ (ds.length : Int) < id) :
    Calls Try.prog 16 #[.pointer (some ⟨tb, 0, none⟩), .int .i64 id] w fun e w' => e = .returned (.tuple #[.agg #[.int .i64 0, .slice none 0 0], .int .i64 2]) ∧ Keep [] w w' := by
  have h1 := h.keep (Keep.alloc [] w (.cells #[.int .i64 0, .slice none 0 0] 49)) (by simp)
  have hx := heap_alloc_new w (.cells #[.int .i64 0, .slice none 0 0] 49)
  have hK := Keep.alloc [] w (.cells #[.int .i64 0, .slice none 0 0] 49)
  by_cases hlo : id < 1
  · clear h1 hid
    go_enter Try.func16, Try.ntmps16
    go_wp2
    refine bodyPost_ret (results_cell_tmp_row rfl _ _ w.heap.size 49 #[.int .i64 0, .slice none 0 0] (0, 0) _ rfl hx Try.underlying49 rfl (by kernel_rfl)) rfl ?_
    exact ⟨rfl, hK⟩
  · have hd : decide (id < 1) = false := by rw [decide_eq_false_iff_not]; omega
    have hg : (ds.length : Int) < id := by omega
    obtain ⟨n, hn⟩ : ∃ n, ds.length = n := ⟨_, rfl⟩
    have HN := (show Hid (ds.length = n) from hn)
    rw [hn] at hg
    clear hid hn
    go_enter Try.func16, Try.ntmps16
    go_wp2_with (first | (go_at_call 19; refine (tclasses tb F ds _ h1).mono ?_; rw [HN.out]; rintro e w' ⟨rfl, rfl⟩))
    refine bodyPost_ret (results_cell_tmp_row rfl _ _ w.heap.size 49 #[.int .i64 0, .slice none 0 0] (0, 0) _ rfl hx Try.underlying49 rfl (by kernel_rfl)) rfl ?_
    exact ⟨rfl, hK⟩
set_option maxHeartbeats 800000 in
theorem tclass_nil (id : Int) (w : World) :
    Calls Try.prog 16 #[.pointer none, .int .i64 id] w fun e w' => e = .returned (.tuple #[.agg #[.int .i64 0, .slice none 0 0], .int .i64 2]) ∧ Keep [] w w' := by
  have hx := heap_alloc_new w (.cells #[.int .i64 0, .slice none 0 0] 49)
  have hK := Keep.alloc [] w (.cells #[.int .i64 0, .slice none 0 0] 49)
  by_cases hlo : id < 1
  · go_enter Try.func16, Try.ntmps16
    go_wp2
    refine bodyPost_ret (results_cell_tmp_row rfl _ _ w.heap.size 49 #[.int .i64 0, .slice none 0 0] (0, 0) _ rfl hx Try.underlying49 rfl (by kernel_rfl)) rfl ?_
    exact ⟨rfl, hK⟩
  · have hd : decide (id < 1) = false := by rw [decide_eq_false_iff_not]; omega
    have hg : (0 : Int) < id := by omega
    go_enter Try.func16, Try.ntmps16
    go_wp2_with (first | (go_at_call 19; refine (tclasses_nil _).mono ?_; rintro e w' ⟨rfl, rfl⟩))
    refine bodyPost_ret (results_cell_tmp_row rfl _ _ w.heap.size 49 #[.int .i64 0, .slice none 0 0] (0, 0) _ rfl hx Try.underlying49 rfl (by kernel_rfl)) rfl ?_
    exact ⟨rfl, hK⟩

set_option maxHeartbeats 1600000 in
theorem tclass_yes (tb i : Nat) (F : List Nat) (ds : List (Int × List Int)) (f : Int) (L : List Int) (w : World) (h : IsTab w tb F ds) (hi : ds[i]? = some (f, L)) (hl : ds.length ≤ 1000000) :
    Calls Try.prog 16 #[.pointer (some ⟨tb, 0, none⟩), .int .i64 ((i : Int) + 1)] w fun e w' => ∃ v, e = .returned (.tuple #[.agg #[.int .i64 f, v], .int .i64 0]) ∧ GivesI w w' v L ∧ Keep [] w w' := by
  have h1 := h.keep (Keep.alloc [] w (.cells #[.int .i64 0, .slice none 0 0] 49)) (by simp)
  have hx := heap_alloc_new w (.cells #[.int .i64 0, .slice none 0 0] 49)
  have hK := Keep.alloc [] w (.cells #[.int .i64 0, .slice none 0 0] 49)
  obtain ⟨va, vc, cs, h2, e⟩ := h1
  obtain ⟨n, hn⟩ : ∃ n, cs.length = n := ⟨_, rfl⟩
  have hn2 : ds.length = n := by rw [e, List.length_map]; exact hn
  have HN := (show Hid (ds.length = n) from hn2)
  have hin : i < n := by
    rw [← hn2]
    rcases Nat.lt_or_ge i ds.length with h | h
    · exact h
    · rw [List.getElem?_eq_none h] at hi; cases hi
  obtain ⟨c, hc⟩ : ∃ c, cs[i]? = some c := ⟨cs[i], by simp [hn, hin]⟩
  have hd : c.d = (f, L) := by
    rw [e, List.getElem?_map, hc] at hi
    simpa using hi
  obtain ⟨cf, ca, cc, cL⟩ := c
  simp [CV.d] at hd
  obtain ⟨rfl, rfl⟩ := hd
  obtain ⟨hI, hcc, hcl, hcb⟩ := h2.each i _ hc
  obtain ⟨q0, q1⟩ := flat_get0 cs i _ hc
  have hlen : n ≤ 1000000 := by omega
  have hcell := h2.cell
  rw [hn] at hcell
  rcases h2.own.2 with ⟨_, h0⟩ | ⟨g, cap, cur, ev, _, hg, _, hcap, hsz, htake⟩
  · omega
  cases ev
  have hcu : ∀ j u, (flat cs)[j]? = some u → (w.alloc (.cells #[.int .i64 0, .slice none 0 0] 49)).cell? ⟨g, j, none⟩ = some u := by
    intro j u hu
    have hj : j < cs.length * 2 := by
      rcases Nat.lt_or_ge j (cs.length * 2) with h | h
      · exact h
      · rw [List.getElem?_eq_none (by rw [flat_length]; exact h)] at hu; cases hu
    rw [← htake, List.getElem?_take, if_pos hj] at hu
    have hu' : cur[j]? = some u := by simpa using hu
    simp [World.cell?, hg, hu']
  have x0 := hcu _ _ q0
  have x1 := hcu _ _ q1
  have HT := (show Hid (IsTab (w.alloc (.cells #[.int .i64 0, .slice none 0 0] 49)) tb F ds) from ⟨_, _, cs, h2, e⟩)
  have HI := (show Hid (IntsAt (w.alloc (.cells #[.int .i64 0, .slice none 0 0] 49)) ca cL) from hI)
  have HCC := (show Hid (ca = none → cc = 0) from hcc)
  have hd1 : decide ((i : Int) + 1 < 1) = false := by rw [decide_eq_false_iff_not]; omega
  have hd2 : decide ((n : Int) < (i : Int) + 1) = false := by rw [decide_eq_false_iff_not]; omega
  have hs1 : (i : Int) + 1 - 1 = i := by omega
  have hb0 : (0 : Int) ≤ (i : Int) := by omega
  have hb1 : (i : Int) < n := by omega
  obtain ⟨lL, hlL⟩ : ∃ lL, cL.length = lL := ⟨_, rfl⟩
  have HL := (show Hid (cL.length = lL) from hlL)
  have x1' : (w.alloc (.cells #[.int .i64 0, .slice none 0 0] 49)).cell? ⟨g, i * 2 + 1, none⟩ = some (.slice ca lL cc) := by rw [x1]; simp [hlL]
  rw [hlL] at hcl
  simp only at x0
  clear h h2 hI hcc hcb q0 q1 hg htake hcu hc hi e hn hn2 hl hlL x1 hsz hcap
  go_enter Try.func16, Try.ntmps16
  go_wp2_with (first | (go_at_call 19; refine (tclasses tb F ds _ HT.out).mono ?_; rw [HN.out]; rintro e w' ⟨rfl, rfl⟩) | (go_at_call 37; refine (copied_any cf ca lL cc cL _ HI.out HCC.out HL.out hcl).mono ?_; rintro e w3 ⟨v, rfl, HG, hK3⟩; obtain ⟨la, lc, rfl, hG1, hG2, hG3⟩ := HG; have hx3 := hK3.blk hx (by simp); have e0 : w3.cell? ⟨w.heap.size, 0, none⟩ = some (.int .i64 0) := (by simp [World.cell?, hx3]); have e1 : w3.cell? ⟨w.heap.size, 1, none⟩ = some (.slice none 0 0) := (by simp [World.cell?, hx3]); have f0 : w3.frozen? ⟨w.heap.size, 0, none⟩ = false := (by simp [World.frozen?, hx3]); have f1 : w3.frozen? ⟨w.heap.size, 1, none⟩ = false := (by simp [World.frozen?, hx3])))
  have z1 := heap_setCell_same w3 w.heap.size 0 _ _ (.int .i64 cf) hx3
  have z2 := heap_setCell_same _ w.heap.size 1 _ _ (.slice la cL.length lc) z1
  have hk4 : Keep [w.heap.size] w3 ((w3.setCell ⟨w.heap.size, 0, none⟩ (.int .i64 cf)).setCell ⟨w.heap.size, 1, none⟩ (.slice la cL.length lc)) := (Keep.setCell _ _ (by simp)).trans (Keep.setCell _ _ (by simp))
  have HG : GivesI (w.alloc (.cells #[.int .i64 0, .slice none 0 0] 49)) w3 (.slice la cL.length lc) cL := ⟨la, lc, rfl, hG1, hG2, hG3⟩
  refine bodyPost_ret (results_cell_tmp_row rfl _ _ w.heap.size 49 #[.int .i64 cf, .slice la cL.length lc] (0, 0) _ rfl (by simpa using z2) Try.underlying49 rfl (by kernel_rfl)) rfl ?_
  exact ⟨_, rfl, HG.later hk4 (by simp) (by simp), (((hK.mono (T := [w.heap.size]) (by simp)).trans (hK3.mono (by simp))).trans hk4).drop (by simp)⟩

/-- The same, of a number that is given as one. -/
theorem tclass_at (tb i : Nat) (F : List Nat) (ds : List (Int × List Int)) (f id : Int) (L : List Int) (w : World) (h : IsTab w tb F ds) (hi : ds[i]? = some (f, L)) (hl : ds.length ≤ 1000000) (hid : id = (i : Int) + 1) :
    Calls Try.prog 16 #[.pointer (some ⟨tb, 0, none⟩), .int .i64 id] w fun e w' => ∃ la lc, e = .returned (.tuple #[.agg #[.int .i64 f, .slice la L.length lc], .int .i64 0]) ∧ GivesI w w' (.slice la L.length lc) L ∧ Keep [] w w' := by
  subst hid
  refine (tclass_yes tb i F ds f L w h hi hl).mono ?_
  rintro e w' ⟨v, rfl, HG, hK⟩
  obtain ⟨la, lc, rfl, h1, h2, h3⟩ := HG
  exact ⟨la, lc, rfl, ⟨la, lc, rfl, h1, h2, h3⟩, hK⟩

set_option maxHeartbeats 800000 in
theorem tadd_nil (v : Value) (f : Int) (ao : Option Addr) (n c : Nat) (w : World) (hv : v = .agg #[.int .i64 f, .slice ao n c]) :
    Calls Try.prog 36 #[.pointer none, v] w fun e w' => e = .returned (.tuple #[.int .i64 0, .int .i64 2]) ∧ Keep [] w w' := by
  subst hv
  have hK := Keep.alloc [] w (.cells #[.int .i64 f, .slice ao n c] 49)
  go_enter Try.func36, Try.ntmps36
  go_wp2
  go_ret2
  exact ⟨rfl, hK⟩
set_option maxRecDepth 100000 in
set_option maxHeartbeats 800000 in
theorem tadd_arg (tb : Nat) (f : Int) (ao : Option Addr) (n c : Nat) (L : List Int) (w : World) (hA : IntsAt w ao L) (hn : L.length = n) (hb : n ≤ 1000000) (hm : mayB f L = false) :
    Calls Try.prog 36 #[.pointer (some ⟨tb, 0, none⟩), .agg #[.int .i64 f, .slice ao n c]] w fun e w' => e = .returned (.tuple #[.int .i64 0, .int .i64 1]) ∧ Keep [] w w' := by
  have hK := Keep.alloc [] w (.cells #[.int .i64 f, .slice ao n c] 49)
  have hx := heap_alloc_new w (.cells #[.int .i64 f, .slice ao n c] 49)
  have HA := (show Hid (IntsAt (w.alloc (.cells #[.int .i64 f, .slice ao n c] 49)) ao L) from hA.keep hK (by simp [Off]))
  have HN := (show Hid (L.length = n) from hn)
  have HM := (show Hid (mayB f L = false) from hm)
  clear hA hn hm
  go_enter Try.func36, Try.ntmps36
  go_wp2_with (first | (go_at_call 54; refine (may_any f ao n c L _ HA.out HN.out (by omega)).mono ?_; rw [HM.out]; rintro e w1 ⟨rfl, hK1⟩))
  go_ret2
  exact ⟨rfl, hK.trans hK1⟩
set_option maxRecDepth 100000 in
set_option maxHeartbeats 800000 in
theorem tadd_full (tb : Nat) (F : List Nat) (ds : List (Int × List Int)) (f : Int) (ao : Option Addr) (n c : Nat) (L : List Int) (w : World) (h : IsTab w tb F ds) (hA : IntsAt w ao L) (hn : L.length = n) (hb : n ≤ 1000000) (hm : mayB f L = true) (hf : 256 ≤ ds.length) :
    Calls Try.prog 36 #[.pointer (some ⟨tb, 0, none⟩), .agg #[.int .i64 f, .slice ao n c]] w fun e w' => e = .returned (.tuple #[.int .i64 0, .int .i64 3]) ∧ Keep [] w w' := by
  have hK := Keep.alloc [] w (.cells #[.int .i64 f, .slice ao n c] 49)
  have hx := heap_alloc_new w (.cells #[.int .i64 f, .slice ao n c] 49)
  have HA := (show Hid (IntsAt (w.alloc (.cells #[.int .i64 f, .slice ao n c] 49)) ao L) from hA.keep hK (by simp [Off]))
  have HN := (show Hid (L.length = n) from hn)
  have HM := (show Hid (mayB f L = true) from hm)
  have HT := (show Hid (IsTab (w.alloc (.cells #[.int .i64 f, .slice ao n c] 49)) tb F ds) from h.keep hK (by simp))
  clear hA hn hm h
  go_enter Try.func36, Try.ntmps36
  go_wp2_with (first | (go_at_call 54; refine (may_any f ao n c L _ HA.out HN.out (by omega)).mono ?_; rw [HM.out]; rintro e w1 ⟨rfl, hK1⟩; obtain ⟨va, vc, cs, h1, e1⟩ := HT.out.keep hK1 (by simp); have hcell := h1.cell; have hlen : cs.length = ds.length := (by rw [e1, List.length_map]); rw [hlen] at hcell; generalize ds.length = dl at hcell hf; clear h1 e1 hlen))
  go_ret2
  exact ⟨rfl, hK.trans hK1⟩
theorem TabAt.far4 {F : List Nat} {w w4 : World} {tb vc : Nat} {va : Option Addr} {cs : List CV} {o : Obj} (h : TabAt w tb va vc F cs) (hg : (w.alloc o).grownBy w4 (Value.slice va cs.length vc).ownBlock) :
    w4.cell? ⟨tb, 0, none⟩ = some (.slice va cs.length vc) ∧ w4.frozen? ⟨tb, 0, none⟩ = false := by
  have htb := h.lt _ h.tF
  have e : w4.heap[tb]? = some (.cells #[.slice va cs.length vc] 85 (0, 0)) := by
    rw [← h.head]
    refine (hg.block tb (by simp; omega) (fun e => ?_)).trans (Below.heap_alloc _ _ _ htb)
    cases va with
    | none => simp [Value.ownBlock] at e
    | some a => simp [Value.ownBlock] at e; exact (h.vF a rfl).2 e.symm
  exact ⟨by simp [World.cell?, e], by simp [World.frozen?, e]⟩
theorem oneCells (f : Int) (la : Option Addr) (n lc : Nat) : ∀ u ∈ [Value.int .i64 f, .slice la n lc], u.oneCell' = true := by
  intro u hu
  simp at hu
  rcases hu with rfl | rfl <;> rfl

set_option maxRecDepth 100000 in
set_option maxHeartbeats 3200000 in
theorem tadd_yes (tb : Nat) (F : List Nat) (ds : List (Int × List Int)) (f : Int) (ao : Option Addr) (n c : Nat) (L : List Int) (w : World) (h : IsTab w tb F ds) (hA : IntsAt w ao L) (hc : ao = none → c = 0) (hn : L.length = n) (hb : n ≤ 1000000) (hm : mayB f L = true) (hf : ds.length < 256) :
    Calls Try.prog 36 #[.pointer (some ⟨tb, 0, none⟩), .agg #[.int .i64 f, .slice ao n c]] w fun e w' => e = .returned (.tuple #[.int .i64 ((ds.length : Int) + 1), .int .i64 0]) ∧ (∃ F', IsTab w' tb F' (ds ++ [(f, L)]) ∧ ∀ k, k ∈ F' → k ∈ F ∨ w.heap.size ≤ k) ∧ Keep F w w' := by
  obtain ⟨i0, hi, hz0, hz1, hz2⟩ := info_parts Try.infoClass
  have hI : Hid (Try.prog.info? 49 = some i0 ∧ i0.zero = some (.agg #[.int .i64 0, .slice none 0 0]) ∧ i0.size = 2 ∧ i0.bytes = 32) := ⟨hi, hz0, hz1, hz2⟩
  clear hi hz0 hz1 hz2
  have hK := Keep.alloc [] w (.cells #[.int .i64 f, .slice ao n c] 49)
  have hx := heap_alloc_new w (.cells #[.int .i64 f, .slice ao n c] 49)
  have HA := (show Hid (IntsAt (w.alloc (.cells #[.int .i64 f, .slice ao n c] 49)) ao L) from hA.keep hK (by simp [Off]))
  have HN := (show Hid (L.length = n) from hn)
  have HC := (show Hid (ao = none → c = 0) from hc)
  have HM := (show Hid (mayB f L = true) from hm)
  have HT := (show Hid (IsTab (w.alloc (.cells #[.int .i64 f, .slice ao n c] 49)) tb F ds) from h.keep hK (by simp))
  have hB := h.lt
  have HB := (show Hid (∀ k, k ∈ F → k < w.heap.size) from hB)
  clear hA hn hm h hc hB
  go_enter Try.func36, Try.ntmps36
  go_wp2_with (first | (go_at_call 54; refine (may_any f ao n c L _ HA.out HN.out (by omega)).mono ?_; rw [HM.out]; rintro e w1 ⟨rfl, hK1⟩; obtain ⟨va, vc, cs, h1, e1⟩ := HT.out.keep hK1 (by simp); have hcell := h1.cell; have hlen : cs.length = ds.length := (by rw [e1, List.length_map]); have HLN := (show Hid (cs.length = ds.length) from hlen); rw [hlen] at hcell; have HTA := (show Hid (TabAt w1 tb va vc F cs) from h1); have HE := (show Hid (ds = cs.map CV.d) from e1); clear h1 e1 hlen))
  have hx1 := hK1.blk hx (by simp)
  have hbx : w.heap.size < w1.heap.size := lt_of_block hx1
  have hKw := hK.trans hK1
  have hIA := HA.out.keep hK1 (by simp [Off])
  have HA1 := (show Hid (IntsAt w1.drew ao L) from hIA.keep (Keep.drew [] w1) (by simp [Off]))
  have HT1 := (show Hid (TabAt w1.drew tb va vc F cs) from HTA.out.keep (Keep.drew [] w1) (by simp))
  have hKd : Keep [] w w1.drew := hKw.trans (Keep.drew [] w1)
  clear hx hK hK1 HA HT hKw hIA
  have hx2 : w1.drew.heap[w.heap.size]? = some (.cells #[.int .i64 f, .slice ao n c] 49 (0, 0)) := hx1
  obtain ⟨bx, hbq⟩ : ∃ bx, w.heap.size = bx := ⟨_, rfl⟩
  rw [hbq] at hx1 hx2 ⊢
  have c0 : w1.cell? ⟨bx, 0, none⟩ = some (.int .i64 f) := by simp [World.cell?, hx1]
  have c1 : w1.cell? ⟨bx, 1, none⟩ = some (.slice ao n c) := by simp [World.cell?, hx1]
  obtain ⟨dl, hdl⟩ : ∃ dl, ds.length = dl := ⟨_, rfl⟩
  rw [hdl] at hf hcell ⊢
  have HDL := (show Hid (cs.length = dl) from by show _ = _; rw [HLN.out]; exact hdl)
  have HB3 := (show Hid (∀ k, k ∈ F → k < w1.drew.heap.size) from fun k hk => Nat.lt_of_lt_of_le (HB.out k hk) hKd.size)
  have HGW0 := (show Hid (∀ w3, Keep [] w1.drew w3 → ∀ g, (Value.slice va dl vc).ownBlock = some g ∨ g = w3.heap.size + 1 → g ∈ F ∨ w.heap.size ≤ g) from by
    intro w3 hK3 g hg
    rcases hg with e | e
    · left
      cases va with
      | none => simp [Value.ownBlock] at e
      | some a => simp [Value.ownBlock] at e; rw [← e]; exact (HT1.out.vF a rfl).1
    · right
      have := hK3.size
      have := hKd.size
      omega)
  clear hx1
  go_region_law (first | (refine step_append_lies _ rfl (.tmp 21) (.tmp 24) 83 rfl 0 49 i0 (.agg #[.int .i64 0, .slice none 0 0]) 2 32 Try.underlying83 hI.out.1 hI.out.2.1 hI.out.2.2.1 hI.out.2.2.2 rfl (by decide) (.slice va dl vc) dl (flat cs) rfl HO3.out ⟨w3.heap.size, 0, none⟩ 1 1 [.int .i64 f, .slice la n lc] rfl rfl (World.news_of_block (heap_alloc_new w3 _)) (oneCells f la n lc) (by omega) (by unfold maxLen; omega) (by omega) (by omega) (w3.heap.size + 1) (by simp) ?_; intro g cap w4 hown hgrow hat hlt; have HADD := (show Hid (TabAt (w4.setCell ⟨tb, 0, none⟩ (.slice (some ⟨g, 0, none⟩) (cs.length + 1) cap)) tb (some ⟨g, 0, none⟩) cap (g :: (la.toList.map (·.block) ++ F)) (cs ++ [⟨f, la, lc, L⟩]) ∧ Keep F w3 (w4.setCell ⟨tb, 0, none⟩ (.slice (some ⟨g, 0, none⟩) (cs.length + 1) cap))) from TabAt.added (B := w1.drew.heap.size) HT3.out HB3.out HG.out.1 HG.out.2.1 HG.out.2.2.1 HG.out.2.2.2.1 HG.out.2.2.2.2 (by rw [HDL.out, HN.out]; exact hown) (by rw [HDL.out]; exact hgrow) (by rw [HDL.out]; exact hat) hlt); have HGB := (show Hid (g ∈ F ∨ w.heap.size ≤ g) from HGW.out g hat); obtain ⟨hcell4, hfree4⟩ := HT3.out.far4 (by rw [HDL.out]; exact hgrow); rw [HDL.out] at hcell4; clear hown hgrow hat hlt) | (go_simp; refine (copied_any f ao n c L _ HA1.out HC.out HN.out hb).mono ?_; rintro e w3 ⟨v, rfl, hG, hK3⟩; obtain ⟨la, lc, rfl, hG1, hG2, hG3⟩ := hG; rw [HN.out]; have hT3 := HT1.out.keep hK3 (by simp); have hcell3 := hT3.cell; rw [HDL.out] at hcell3; have hx3 := hK3.blk hx2 (by simp); have d0 : w3.cell? ⟨bx, 0, none⟩ = some (.int .i64 f) := (by simp [World.cell?, hx3]); have d1 : w3.cell? ⟨bx, 1, none⟩ = some (.slice ao n c) := (by simp [World.cell?, hx3]); have hcell3a : (w3.alloc (.cells #[.int .i64 f, .slice la n lc] 49)).cell? ⟨tb, 0, none⟩ = some (.slice va dl vc) := ((Keep.alloc [] w3 _).cell (hT3.lt _ hT3.tF) (by simp) 0).trans hcell3; have HT3 := (show Hid (TabAt w3 tb va vc F cs) from hT3); have HO3 := (show Hid ((w3.alloc (.cells #[.int .i64 f, .slice la n lc] 49)).ownsRow 0 49 2 (.slice va dl vc) dl (flat cs)) from (by have := hT3.own.alloc (.cells #[.int .i64 f, .slice la n lc] 49); rw [HDL.out] at this; exact this)); have HG := (show Hid (IntsAt w3 la L ∧ (la = none → lc = 0) ∧ L.length ≤ 1000000 ∧ (∀ a, la = some a → w1.drew.heap.size ≤ a.block ∧ a.block < w3.heap.size) ∧ w1.drew.heap.size ≤ w3.heap.size) from ⟨hG1, hG2, (by rw [HN.out]; exact hb), (fun a e => ⟨(hG3 a e).1, (hG3 a e).2.1⟩), hK3.size⟩); have HGW := (show Hid (∀ g, (Value.slice va dl vc).ownBlock = some g ∨ g = w3.heap.size + 1 → g ∈ F ∨ w.heap.size ≤ g) from (HGW0.out w3 hK3)); clear hT3 hG1 hG2 hG3))
  all_goals (go_wp2_with fail)
  all_goals
    obtain ⟨hA1, hA2⟩ := HADD.out
    rw [HDL.out] at hA1 hA2
    go_ret2
    refine ⟨by rw [hdl]; rfl, ⟨_, ⟨_, _, _, hA1, by rw [HE.out]; simp [CV.d]⟩, ?_⟩, ((hKd.mono (by simp)).trans (hK3.mono (by simp))).trans hA2⟩
    intro k hk
    simp at hk
    rcases hk with rfl | ⟨a, e, rfl⟩ | hk
    · exact HGB.out
    · right
      have h1 := (HG.out.2.2.2.1 a e).1
      have h2 := hKd.size
      omega
    · exact .inl hk

/-- Add, whatever it is given. -/
def addN (ds : List (Int × List Int)) (f : Int) (L : List Int) : Int := if mayB f L && decide (ds.length < 256) then (ds.length : Int) + 1 else 0
def addE (ds : List (Int × List Int)) (f : Int) (L : List Int) : Int := if mayB f L then (if ds.length < 256 then 0 else 3) else 1
def addR (ds : List (Int × List Int)) (f : Int) (L : List Int) : List (Int × List Int) := if mayB f L && decide (ds.length < 256) then ds ++ [(f, L)] else ds
theorem tadd_any (tb : Nat) (F : List Nat) (ds : List (Int × List Int)) (f : Int) (ao : Option Addr) (n c : Nat) (L : List Int) (w : World) (h : IsTab w tb F ds) (hA : IntsAt w ao L) (hc : ao = none → c = 0) (hn : L.length = n) (hb : n ≤ 1000000) :
    Calls Try.prog 36 #[.pointer (some ⟨tb, 0, none⟩), .agg #[.int .i64 f, .slice ao n c]] w fun e w' => e = .returned (.tuple #[.int .i64 (addN ds f L), .int .i64 (addE ds f L)]) ∧ (∃ F', IsTab w' tb F' (addR ds f L) ∧ ∀ k, k ∈ F' → k ∈ F ∨ w.heap.size ≤ k) ∧ Keep F w w' := by
  unfold addN addE addR
  cases hm : mayB f L with
  | false =>
    refine (tadd_arg tb f ao n c L w hA hn hb hm).mono ?_
    rintro e w' ⟨rfl, hK⟩
    exact ⟨by simp, ⟨F, by simpa using h.keep hK (by simp), fun k hk => .inl hk⟩, hK.mono (by simp)⟩
  | true =>
    by_cases hf : ds.length < 256
    · refine (tadd_yes tb F ds f ao n c L w h hA hc hn hb hm hf).mono ?_
      rintro e w' ⟨rfl, hT, hK⟩
      refine ⟨by simp [hf], by simpa [hf] using hT, hK⟩
    · refine (tadd_full tb F ds f ao n c L w h hA hn hb hm (by omega)).mono ?_
      rintro e w' ⟨rfl, hK⟩
      exact ⟨by simp [hf], ⟨F, by simpa [hf] using h.keep hK (by simp), fun k hk => .inl hk⟩, hK.mono (by simp)⟩

set_option maxRecDepth 100000 in
set_option maxHeartbeats 800000 in
theorem tof_any (tb : Nat) (F : List Nat) (ds : List (Int × List Int)) (f : Int) (ao : Option Addr) (n c : Nat) (L : List Int) (w : World) (h : IsTab w tb F ds) (hA : IntsAt w ao L) (hc : ao = none → c = 0) (hn : L.length = n) (hb : n ≤ 1000000) :
    Calls Try.prog 15 #[.pointer (some ⟨tb, 0, none⟩), .int .i64 f, .slice ao n c] w fun e w' => e = .returned (.tuple #[.int .i64 (addN ds f L), .int .i64 (addE ds f L)]) ∧ (∃ F', IsTab w' tb F' (addR ds f L) ∧ ∀ k, k ∈ F' → k ∈ F ∨ w.heap.size ≤ k) ∧ Keep F w w' := by
  have HC := (show Hid (ao = none → c = 0) from hc)
  have HT := (show Hid (IsTab w tb F ds) from h)
  have HA := (show Hid (IntsAt w ao L) from hA)
  have HN := (show Hid (L.length = n) from hn)
  obtain ⟨aN, hN⟩ : ∃ aN, addN ds f L = aN := ⟨_, rfl⟩
  obtain ⟨aE, hE⟩ : ∃ aE, addE ds f L = aE := ⟨_, rfl⟩
  have HAN := (show Hid (addN ds f L = aN) from hN)
  have HAE := (show Hid (addE ds f L = aE) from hE)
  rw [hN, hE]
  clear hN hE h hA hc hn
  go_enter Try.func15, Try.ntmps15
  go_wp2_with (first | (go_at_call 36; refine (tadd_any tb F ds f ao n c L _ HT.out HA.out HC.out HN.out hb).mono ?_; rw [HAN.out, HAE.out]; rintro e w1 ⟨rfl, HF, hK⟩))
  go_ret2
  exact ⟨rfl, HF, hK⟩

end Go.Proofs.Ytdpaffnpedcmpab
