/-
  Contracts of what the statement calls, one text behind the other (RHeapMake, RHeapMk, ObjNew, ObjList, RHeapFin, RHeapRefs, Twin, ListA, PRow, Mid).
-/
import Derived.Test.YtgpidokklhjfdaaGreatPart5
import Derived.Deep.CutRange
import Derived.Test.YtgpidokklhjfdaaGreatPart2
import Derived.Deep.AppendLies
import Derived.Test.YtgpidokklhjfdaaGreatPart1
import Derived.ArgAppend
import Derived.Deep.OwnRows

/-
  The document's own heap: May, Make.
-/
namespace Go.Proofs.YtgpidokklhjfdaaGreat
open Go.RowKit

/-- A block beside something is written. -/
theorem Has.block {w0 w w' : World} {F0 : List Nat} {A : Asn} {b : Nat} {o o' : Obj} (h : Has w0 F0 (A.star (blockA b o)) w) (K : Keep [b] w w') (ho : w'.heap[b]? = some o') : Has w0 F0 (A.star (blockA b o')) w' :=
  (Has.left h.comm (A' := blockA b o') (fun F e => ⟨[b], ⟨rfl, ho⟩, by rw [e.1]; exact K, fun k hk => by rw [e.1]; exact .inl hk⟩)).comm
theorem Has.blk {w0 w : World} {F0 : List Nat} {A : Asn} {b : Nat} {o : Obj} (h : Has w0 F0 (A.star (blockA b o)) w) : w.heap[b]? = some o := h.snd.fact (fun _ h => h.2)
theorem Has.moreBlock {w0 w : World} {F0 : List Nat} {A : Asn} (h : Has w0 F0 A w) (o : Obj) : Has w0 F0 (A.star (blockA w.heap.size o)) (w.alloc o) :=
  h.more (Keep.alloc [] w o) ⟨rfl, heap_alloc_new w o⟩ (fun k hk => by simp at hk; omega)
theorem Has.rapart {w0 w : World} {F0 : List Nat} {hb mb b gw n : Nat} {ws : List Int} {kd : List PK} {ds : List (Int × List Int)} {o : Obj} (h : Has w0 F0 ((rrawA hb mb ws kd ds).star (blockA b o)) w) (hc : w.cell? ⟨mb, 0, none⟩ = some (.slice (some ⟨gw, 0, none⟩) n n)) : gw ≠ b ∧ mb ≠ b ∧ hb ≠ b := by
  refine h.fact (fun F h => ?_)
  obtain ⟨F1, F2, _, ⟨F3, F4, hF, h1, ⟨L, h2⟩, _⟩, ⟨rfl, _⟩, hd⟩ := h
  obtain ⟨f0, f1, _⟩ := h2.f
  have e := h2.c0
  rw [hc] at e
  have e2 : gw = L.gw := by injection e with e; injection e with e; injection e with e; injection e
  subst e2
  refine ⟨fun e => ?_, fun e => ?_, fun e => ?_⟩
  · exact hd L.gw ((hF _).2 (.inr f1)) (by simp [e])
  · exact hd mb ((hF _).2 (.inr f0)) (by simp [e])
  · exact hd hb ((hF _).2 (.inl h1.mem)) (by simp [e])

section
variable {w0 : World} {F0 : List Nat} {hb : Nat} {ws : List Int} {kd : List PK} {ds : List (Int × List Int)}
set_option maxRecDepth 100000 in
set_option maxHeartbeats 1600000 in
theorem rmay9_arg (k c l : Int) (f : Bool) (w : World) (hm : (mayH k c l f && !f) = false) :
    Calls Tryz.prog 61 #[.pointer (some ⟨hb, 0, none⟩), .agg #[.int .i64 k, .int .i64 c, .int .i64 l, .bool f]] w fun e w' => e = .returned (.int .i64 1) ∧ Keep [] w w' := by
  have hK := Keep.alloc [] w (.cells #[.int .i64 k, .int .i64 c, .int .i64 l, .bool f] 68)
  have hx := heap_alloc_new w (.cells #[.int .i64 k, .int .i64 c, .int .i64 l, .bool f] 68)
  cases hmm : mayH k c l f with
  | false =>
    have HM := (show Hid (mayH k c l f = false) from hmm)
    clear hm hmm
    go_enter Tryz.func61, Tryz.ntmps61
    go_wp2_with (first | (go_at_call 89; refine (rmayh_any k c l f _).mono ?_; rw [HM.out]; rintro e w1 ⟨rfl, hK1⟩))
    go_ret
    exact ⟨rfl, hK.trans hK1⟩
  | true =>
    have HM := (show Hid (mayH k c l f = true) from hmm)
    rw [hmm] at hm
    have hf : f = true := by simpa using hm
    subst hf
    clear hm hmm
    go_enter Tryz.func61, Tryz.ntmps61
    go_wp2_with (first | (go_at_call 89; refine (rmayh_any k c l true _).mono ?_; rw [HM.out]; rintro e w1 ⟨rfl, hK1⟩; obtain ⟨g0, g1, g2, g3⟩ := four_cells (hK1.blk hx (by simp))))
    go_ret
    exact ⟨rfl, hK.trans hK1⟩
set_option maxRecDepth 100000 in
set_option maxHeartbeats 1600000 in
theorem rmay9_fits {mb : Nat} (k c l E : Int) (w : World) (h : Has w0 F0 (rrawA hb mb ws kd ds) w) (hm : mayH k c l false = true) (hT : FitsT ds k c l E) :
    Calls Tryz.prog 61 #[.pointer (some ⟨hb, 0, none⟩), .agg #[.int .i64 k, .int .i64 c, .int .i64 l, .bool false]] w fun e w' => e = .returned (.int .i64 E) ∧ Keep [] w w' := by
  have hK := Keep.alloc [] w (.cells #[.int .i64 k, .int .i64 c, .int .i64 l, .bool false] 68)
  have hx := heap_alloc_new w (.cells #[.int .i64 k, .int .i64 c, .int .i64 l, .bool false] 68)
  have HX := (show Hid (Has w0 F0 (rrawA hb mb ws kd ds) (w.alloc (.cells #[.int .i64 k, .int .i64 c, .int .i64 l, .bool false] 68))) from h.keep0 hK)
  have HM := (show Hid (mayH k c l false = true) from hm)
  have hbd := mayH_bd hm
  have hc1 : k = 1 → 1 ≤ c := by
    intro e; subst e; rw [mayH_1] at hm; unfold inB at hm; simp at hm; omega
  clear h hm
  cases hT with
  | other hk =>
    have hd : (k == 1) = false := by simpa using hk
    clear hc1
    go_enter Tryz.func61, Tryz.ntmps61
    go_wp2_with (first | (go_at_call 89; refine (rmayh_any k c l false _).mono ?_; rw [HM.out]; rintro e w1 ⟨rfl, hK1⟩; obtain ⟨g0, g1, g2, g3⟩ := four_cells (hK1.blk hx (by simp))))
    go_ret
    exact ⟨rfl, hK.trans hK1⟩
  | none hk hc =>
    subst hk
    have hc2 : (ds.length : Int) < c := by have := hc1 rfl; omega
    have hd : decide ((ds.length : Int) < c) = true := decide_eq_true hc2
    obtain ⟨n, hn⟩ : ∃ n, ds.length = n := ⟨_, rfl⟩
    have HN := (show Hid (ds.length = n) from hn)
    rw [hn] at hc2 hd
    clear hc hc1 hn
    go_enter Tryz.func61, Tryz.ntmps61
    go_upto_region 4 with (first | (go_at_call 89; refine (rmayh_any 1 c l false _).mono ?_; rw [HM.out]; rintro e w1 ⟨rfl, hK1⟩; obtain ⟨g0, g1, g2, g3⟩ := four_cells (hK1.blk hx (by simp))))
    obtain ⟨_, ⟨va, vc, q1⟩, _⟩ := (HX.out.keep0 hK1).rcells
    rw [HN.out] at q1
    go_quiet (fail)
    go_wp2_with fail
    go_ret
    exact ⟨rfl, (hK.trans hK1).trans (Keep.drewN [] _ _)⟩
  | arg i n L hk hci hi hln =>
    subst hk
    have hin : i < ds.length := by
      rcases Nat.lt_or_ge i ds.length with h | h
      · exact h
      · rw [List.getElem?_eq_none h] at hi; cases hi
    obtain ⟨g, vc, ao, cp, r0, r1, r2, r3, r4⟩ := HX.out.rclass hi
    have HRC := (show Hid (∀ w1, Keep [] (w.alloc (.cells #[.int .i64 1, .int .i64 c, .int .i64 l, .bool false] 68)) w1 → w1.cell? ⟨hb, 1, none⟩ = some (.slice (some ⟨g, 0, none⟩) ds.length vc) ∧ w1.cell? ⟨g, i * 2, none⟩ = some (.int .i64 n)) from fun w1 K => ⟨(K.cell (lt_of_cell2 r0) (by simp) 1).trans r0, (K.cell (lt_of_cell2 r1) (by simp) (i * 2)).trans r1⟩)
    obtain ⟨q, hn⟩ : ∃ q, ds.length = q := ⟨_, rfl⟩
    rw [hn] at hin HRC
    have hci2 : c - 1 = i := by omega
    have hd : decide ((q : Int) < c) = false := decide_eq_false (by omega)
    have hii : (i : Int) < q := by omega
    have hi0 : (0 : Int) ≤ (i : Int) := by omega
    have hnl : ¬ n = l := fun e => hln e.symm
    have hnl2 : (n == l) = false := by simpa using hnl
    have hnl3 : (n != l) = true := by simpa using hnl
    clear hi r0 r1 r2 r3 r4 hn hc1 hci hln hnl
    go_enter Tryz.func61, Tryz.ntmps61
    go_upto_region 4 with (first | (go_at_call 89; refine (rmayh_any 1 c l false _).mono ?_; rw [HM.out]; rintro e w1 ⟨rfl, hK1⟩; obtain ⟨g0, g1, g2, g3⟩ := four_cells (hK1.blk hx (by simp))))
    obtain ⟨q1, q2⟩ := HRC.out w1 hK1
    go_quiet (fail)
    go_wp2_with fail
    go_quiet (fail)
    go_wp2_with fail
    go_ret
    exact ⟨rfl, (hK.trans hK1).trans (by first | exact Keep.drewN [] _ _ | exact (Keep.drewN [] _ _).trans (Keep.drewN [] _ _))⟩
  | yes i L hk hci hi =>
    subst hk
    have hin : i < ds.length := by
      rcases Nat.lt_or_ge i ds.length with h | h
      · exact h
      · rw [List.getElem?_eq_none h] at hi; cases hi
    obtain ⟨g, vc, ao, cp, r0, r1, r2, r3, r4⟩ := HX.out.rclass hi
    have HRC := (show Hid (∀ w1, Keep [] (w.alloc (.cells #[.int .i64 1, .int .i64 c, .int .i64 l, .bool false] 68)) w1 → w1.cell? ⟨hb, 1, none⟩ = some (.slice (some ⟨g, 0, none⟩) ds.length vc) ∧ w1.cell? ⟨g, i * 2, none⟩ = some (.int .i64 l)) from fun w1 K => ⟨(K.cell (lt_of_cell2 r0) (by simp) 1).trans r0, (K.cell (lt_of_cell2 r1) (by simp) (i * 2)).trans r1⟩)
    obtain ⟨q, hn⟩ : ∃ q, ds.length = q := ⟨_, rfl⟩
    rw [hn] at hin HRC
    have hci2 : c - 1 = i := by omega
    have hd : decide ((q : Int) < c) = false := decide_eq_false (by omega)
    have hii : (i : Int) < q := by omega
    have hi0 : (0 : Int) ≤ (i : Int) := by omega
    clear hi r0 r1 r2 r3 r4 hn hc1 hci
    go_enter Tryz.func61, Tryz.ntmps61
    go_upto_region 4 with (first | (go_at_call 89; refine (rmayh_any 1 c l false _).mono ?_; rw [HM.out]; rintro e w1 ⟨rfl, hK1⟩; obtain ⟨g0, g1, g2, g3⟩ := four_cells (hK1.blk hx (by simp))))
    obtain ⟨q1, q2⟩ := HRC.out w1 hK1
    go_quiet (fail)
    go_wp2_with fail
    go_quiet (fail)
    go_wp2_with fail
    go_ret
    exact ⟨rfl, (hK.trans hK1).trans (by first | exact Keep.drewN [] _ _ | exact (Keep.drewN [] _ _).trans (Keep.drewN [] _ _))⟩
end

end Go.Proofs.YtgpidokklhjfdaaGreat

/-
  The document's own heap: Make.
-/
namespace Go.Proofs.YtgpidokklhjfdaaGreat
open Go.RowKit

/-- What is owned, as a list that later worlds keep. -/
theorem Has.fix {w0 w : World} {F0 : List Nat} {A : Asn} (h : Has w0 F0 A w) : ∃ F, (∀ k, k ∈ F → k < w.heap.size) ∧ Upd w0 w F0 F ∧ ∀ wz, Keep [] w wz → A.at' wz F := by
  obtain ⟨F, h1, u⟩ := h
  exact ⟨F, A.lt h1, u, fun wz K => A.keep h1 K (by simp)⟩
theorem Has.unfix {w0 w wz w4 : World} {F0 F : List Nat} {A : Asn} (u : Upd w0 w F0 F) (K : Keep [] w wz) (h : Has wz F A w4) : Has w0 F0 A w4 := by
  obtain ⟨F', h1, u'⟩ := h
  exact ⟨F', h1, (u.trans (Upd.refl K)).trans u'⟩
/-- The same, beside a block that was made ahead of the call and is written behind it. -/
theorem Has.unfixB {w0 w wz w4 w5 : World} {F0 F : List Nat} {A : Asn} {b : Nat} {o : Obj} (u : Upd w0 w F0 F) (hF : ∀ k, k ∈ F → k < w.heap.size) (hb : w.heap.size = b) (K : Keep [] w wz) (hs : b < wz.heap.size) (h : Has wz F A w4) (K5 : Keep [b] w4 w5) (ho : w5.heap[b]? = some o) : Has w0 F0 (A.star (blockA b o)) w5 := by
  obtain ⟨F', h1, u'⟩ := h
  have hne : ∀ k, k ∈ F' → k ≠ b := by
    intro k hk
    rcases u'.grow k hk with e | e
    · have := hF k e; omega
    · omega
  have u2 := (u.trans (Upd.refl K)).trans u'
  have hs0 := u.keep.size
  refine ⟨F' ++ [b], ⟨F', [b], fun k => by simp, A.keep h1 K5 (fun k hk => by simpa using hne k hk), ⟨rfl, ho⟩, fun k hk => by simpa using hne k hk⟩, ⟨K5.os.trans u2.keep.os, K5.tape.trans u2.keep.tape, K5.output.trans u2.keep.output, Nat.le_trans u2.keep.size K5.size, fun k hk hS => ?_⟩, fun k hk => ?_⟩
  · rw [K5.block k (Nat.lt_of_lt_of_le hk u2.keep.size) (by simp; omega), u2.keep.block k hk hS]
  · simp at hk
    rcases hk with hk | rfl
    · exact u2.grow k hk
    · right; omega

section
variable {w0 : World} {F0 : List Nat} {hb : Nat} {ws : List Int} {kd : List PK} {ds : List (Int × List Int)}
set_option maxRecDepth 100000 in
set_option maxHeartbeats 1600000 in
theorem rmake_no (k c l E : Int) (f : Bool) (w : World) (hc : ∀ w1, Keep [] w w1 → Calls Tryz.prog 61 #[.pointer (some ⟨hb, 0, none⟩), .agg #[.int .i64 k, .int .i64 c, .int .i64 l, .bool f]] w1 fun e w' => e = .returned (.int .i64 E) ∧ Keep [] w1 w') (hE : E ≠ 0) :
    Calls Tryz.prog 30 #[.pointer (some ⟨hb, 0, none⟩), .agg #[.int .i64 k, .int .i64 c, .int .i64 l, .bool f]] w fun e w' => e = .returned (.agg #[.int .i64 0, .int .i64 E]) ∧ Keep [] w w' := by
  have hK := (Keep.alloc [] w (.cells #[.int .i64 k, .int .i64 c, .int .i64 l, .bool f] 68)).trans (Keep.alloc [] _ (.cells #[.int .i64 0, .int .i64 0] 73))
  have hx := (Keep.alloc [] (w.alloc (.cells #[.int .i64 k, .int .i64 c, .int .i64 l, .bool f] 68)) (.cells #[.int .i64 0, .int .i64 0] 73)).blk (heap_alloc_new w (.cells #[.int .i64 k, .int .i64 c, .int .i64 l, .bool f] 68)) (by simp)
  have hy := second_block w (.cells #[.int .i64 k, .int .i64 c, .int .i64 l, .bool f] 68) #[.int .i64 0, .int .i64 0] 73
  have HC := (show Hid (∀ w1, Keep [] w w1 → Calls Tryz.prog 61 #[.pointer (some ⟨hb, 0, none⟩), .agg #[.int .i64 k, .int .i64 c, .int .i64 l, .bool f]] w1 fun e w' => e = .returned (.int .i64 E) ∧ Keep [] w1 w') from hc)
  have hd : (E == 0) = false := by simpa using hE
  clear hc
  go_enter Tryz.func30, Tryz.ntmps30
  go_upto_region 1 with fail
  generalize (w.alloc (.cells #[.int .i64 k, .int .i64 c, .int .i64 l, .bool f] 68)).alloc (.cells #[.int .i64 0, .int .i64 0] 73) = w2 at *
  obtain ⟨bz, hbz⟩ : ∃ bz, w.heap.size + 1 = bz := ⟨_, rfl⟩
  have HBZ := (show Hid (w.heap.size + 1 = bz) from hbz)
  rw [hbz] at hy ⊢
  clear hbz
  obtain ⟨p0, p1, p2, p3⟩ := four_cells hx
  go_wp2_with (first | (go_at_call 61; refine (HC.out _ hK).mono ?_; rintro e w3 ⟨rfl, hK3⟩; have hy3 := hK3.blk hy (by simp); obtain ⟨d0, d1⟩ := two_cells hy3; obtain ⟨f0, f1⟩ := two_free hy3))
  obtain ⟨z, hk4⟩ := two_put hy3 (.int .i64 0) (.int .i64 E)
  refine bodyPost_ret (results_cell_row rfl _ _ bz 73 #[.int .i64 0, .int .i64 E] (0, 0) _ rfl z Tryz.underlying73 rfl (by kernel_rfl)) rfl ?_
  exact ⟨rfl, (((hK.trans hK3).mono (T := [bz]) (by simp)).trans hk4).drop (by have := HBZ.out; simp; omega)⟩

set_option maxRecDepth 100000 in
set_option maxHeartbeats 3200000 in
theorem rmake_any {mb : Nat} (k c l N E : Int) (ws' : List Int) (kd' : List PK) (w : World) (h : Has w0 F0 (rrawA hb mb ws kd ds) w) (hw : WF kd) (hm : mayH k c l false = true) (hr : AllocT kd ws (l + 1) N E ws' kd')
    (hc : ∀ w1, Keep [] w w1 → Calls Tryz.prog 61 #[.pointer (some ⟨hb, 0, none⟩), .agg #[.int .i64 k, .int .i64 c, .int .i64 l, .bool false]] w1 fun e w' => e = .returned (.int .i64 0) ∧ Keep [] w1 w')
    (hE : E = 3 ∨ E = 0) (a n : Nat) (ha : E = 0 → N = a ∧ a < n ∧ 64 * kd'.length = n) (wsr : List Int) (hs3 : E = 3 → wsr = ws') (hs0 : E = 0 → wsr = ws'.set a (putH k c l false)) :
    Calls Tryz.prog 30 #[.pointer (some ⟨hb, 0, none⟩), .agg #[.int .i64 k, .int .i64 c, .int .i64 l, .bool false]] w fun e w' => e = .returned (.agg #[.int .i64 N, .int .i64 E]) ∧ Has w0 F0 (rrawA hb mb wsr kd' ds) w' := by
  have hbd := mayH_bd hm
  have hK := (Keep.alloc [] w (.cells #[.int .i64 k, .int .i64 c, .int .i64 l, .bool false] 68)).trans (Keep.alloc [] _ (.cells #[.int .i64 0, .int .i64 0] 73))
  have hX := (h.moreBlock (.cells #[.int .i64 k, .int .i64 c, .int .i64 l, .bool false] 68)).moreBlock (.cells #[.int .i64 0, .int .i64 0] 73)
  rw [show (w.alloc (.cells #[.int .i64 k, .int .i64 c, .int .i64 l, .bool false] 68)).heap.size = w.heap.size + 1 by simp] at hX
  have HC := (show Hid (∀ w1, Keep [] w w1 → Calls Tryz.prog 61 #[.pointer (some ⟨hb, 0, none⟩), .agg #[.int .i64 k, .int .i64 c, .int .i64 l, .bool false]] w1 fun e w' => e = .returned (.int .i64 0) ∧ Keep [] w1 w') from hc)
  have HM := (show Hid (mayH k c l false = true) from hm)
  have HR := (show Hid (AllocT kd ws (l + 1) N E ws' kd') from hr)
  have HWR := (show Hid (IntKind.i64.wrap (l + 1) = l + 1) from IntWalk.i64_in _ (by omega))
  have HEE := (show Hid (E = 3 ∨ E = 0) from hE)
  have HS3 := (show Hid ((E = 3 → wsr = ws') ∧ (E = 0 → wsr = ws'.set a (putH k c l false))) from ⟨hs3, hs0⟩)
  have HAA := (show Hid (E = 0 → N = a ∧ a < n ∧ 64 * kd'.length = n) from ha)
  clear hc h hm hr hE ha hs3 hs0
  go_enter Tryz.func30, Tryz.ntmps30
  go_upto_region 1 with fail
  generalize (w.alloc (.cells #[.int .i64 k, .int .i64 c, .int .i64 l, .bool false] 68)).alloc (.cells #[.int .i64 0, .int .i64 0] 73) = w2 at *
  generalize w.heap.size + 1 = bz at *
  generalize w.heap.size = bx at *
  have HX := (show Hid (Has w0 F0 (((rrawA hb mb ws kd ds).star (blockA bx (.cells #[.int .i64 k, .int .i64 c, .int .i64 l, .bool false] 68))).star (blockA bz (.cells #[.int .i64 0, .int .i64 0] 73))) w2) from hX)
  obtain ⟨p0, p1, p2, p3⟩ := four_cells hX.fst.blk
  clear hX
  go_upto_region 4 with (first | (go_at_call 61; refine (HC.out _ hK).mono ?_; rintro e w3 ⟨rfl, hK3⟩))
  go_cut [6] from 14 to 21 (fun v wz => ∃ by', v = .pointer (some ⟨by', 0, none⟩) ∧ Hid (Has w0 F0 ((((rrawA hb mb ws' kd' ds).star (blockA bx (.cells #[.int .i64 k, .int .i64 c, .int .i64 l, .bool false] 68))).star (blockA bz (.cells #[.int .i64 0, .int .i64 0] 73))).star (blockA by' (.cells #[.int .i64 N, .int .i64 E] 73))) wz))
  case first =>
    have hX3 := HX.out.keep0 hK3
    obtain ⟨b0, _⟩ := hX3.fst.fst.rcells
    obtain ⟨r0, r1, r2, r3⟩ := four_cells hX3.fst.blk
    have hK4 := (Keep.alloc [] w3 (.cells #[.int .i64 0, .int .i64 0] 73)).trans (Keep.drew [] _)
    have hX4 := hX3.keep0 hK4
    obtain ⟨c0, _⟩ := hX4.fst.fst.rcells
    obtain ⟨s0, s1, s2, s3⟩ := four_cells hX4.fst.blk
    obtain ⟨F, hFl, hFu, hFz⟩ := hX3.fix
    have HF := (show Hid ((∀ k, k ∈ F → k < w3.heap.size) ∧ Upd w0 w3 F0 F ∧ ∀ wz, Keep [] w3 wz → (((rrawA hb mb ws kd ds).star (blockA bx (.cells #[.int .i64 k, .int .i64 c, .int .i64 l, .bool false] 68))).star (blockA bz (.cells #[.int .i64 0, .int .i64 0] 73))).at' wz F) from ⟨hFl, hFu, hFz⟩)
    have hn1 := World.new_ne _ _ b0
    have hn2 := World.new_ne _ _ r2
    clear hX3 hX4 hFl hFu hFz p0 p1 p2 p3 hK hK3 HX HC HS3 HAA HEE
    go_region_law (first | (go_simp; rw [HWR.out]; refine (has_left (Has.start (HF.out.2.2 _ (by first | exact Keep.drew [] _ | exact (Keep.alloc [] _ _).trans (Keep.drew [] _)))) (fun F hF => has_left hF (fun F hF => yalloc _ (l + 1) N E ws' kd' hF hw HR.out))).mono ?_; rintro e w4 ⟨rfl, hX4⟩; have HX4 := (show Hid (Has _ F (((rrawA hb mb ws' kd' ds).star (blockA bx (.cells #[.int .i64 k, .int .i64 c, .int .i64 l, .bool false] 68))).star (blockA bz (.cells #[.int .i64 0, .int .i64 0] 73))) w4) from hX4); obtain ⟨u0, _⟩ := hX4.fst.fst.rcells; obtain ⟨v0, v1, v2, v3⟩ := four_cells hX4.fst.blk; try (have hz := hX4.K.blk (heap_alloc_new w3 (.cells #[.int .i64 0, .int .i64 0] 73)) (fun e => by have := HF.out.1 _ e; omega); obtain ⟨y0, y1⟩ := two_cells hz; obtain ⟨z0, z1⟩ := two_free hz); clear hX4))
    all_goals first
      | (obtain ⟨hz1, hk4⟩ := two_put hz (.int .i64 N) (.int .i64 E)
         have H5 := Has.unfixB HF.out.2.1 HF.out.1 rfl hK4 (by simp) HX4.out hk4 hz1
         clear hk4 hz y0 y1 z0 z1
         generalize (w4.setCell ⟨w3.heap.size, 0, none⟩ (.int .i64 N)).setCell ⟨w3.heap.size, 1, none⟩ (.int .i64 E) = w5 at *
         generalize w3.heap.size = by' at *)
      | (have H5 := (Has.unfix HF.out.2.1 (Keep.drew [] w3) HX4.out).moreBlock (.cells #[.int .i64 N, .int .i64 E] 73)
         generalize w4.alloc (.cells #[.int .i64 N, .int .i64 E] 73) = w5 at *
         generalize w4.heap.size = by' at *)
    all_goals (
      have HH5 := (show Hid (Has w0 F0 ((((rrawA hb mb ws' kd' ds).star (blockA bx (.cells #[.int .i64 k, .int .i64 c, .int .i64 l, .bool false] 68))).star (blockA bz (.cells #[.int .i64 0, .int .i64 0] 73))).star (blockA by' (.cells #[.int .i64 N, .int .i64 E] 73))) w5) from H5)
      clear H5
      go_wp2_with fail
      go_meet
      exact ⟨by', rfl, HH5⟩)
  case rest =>
    obtain ⟨by', rfl, HH5⟩ := hcut
    obtain ⟨w5, rfl⟩ : ∃ w5, w5 = wc := ⟨_, rfl⟩
    have H5 := HH5.out
    obtain ⟨b5, _, ⟨gw, q5, t5⟩, _⟩ := H5.fst.fst.fst.rcells
    obtain ⟨g0, g1⟩ := two_cells H5.blk
    obtain ⟨x0, x1, x2, x3⟩ := four_cells H5.fst.fst.blk
    obtain ⟨d0, d1⟩ := two_cells H5.fst.blk
    obtain ⟨f0, f1⟩ := two_free H5.fst.blk
    clear H5 HX hK hK3 HC p0 p1 p2 p3
    rcases HEE.out with hE | hE
    · have HSR := (show Hid (wsr = ws') from HS3.out.1 hE)
      subst hE
      clear t5 q5 b5 HS3
      go_wp2_with fail
      obtain ⟨z, hk6⟩ := two_put HH5.out.fst.blk (.int .i64 N) (.int .i64 3)
      refine bodyPost_ret (results_cell_row rfl _ _ bz 73 #[.int .i64 N, .int .i64 3] (0, 0) _ rfl z Tryz.underlying73 rfl (by kernel_rfl)) rfl ?_
      exact ⟨rfl, by rw [HSR.out]; exact (HH5.out.fst.block hk6 z).fst.fst⟩
    · obtain ⟨hN, hlt, hn⟩ := HAA.out hE
      obtain ⟨x, hx⟩ : ∃ x, putH k c l false = x := ⟨_, rfl⟩
      have HP := (show Hid (putH k c l false = x) from hx)
      have HSR := (show Hid (wsr = ws'.set a x) from by show _ = _; rw [← hx]; exact HS3.out.2 hE)
      subst hE hN
      obtain ⟨q6, q7⟩ := t5 a (by omega)
      rw [hn] at q5
      have hni : (a : Int) < n := by omega
      have HQ := (show Hid (∀ w', Keep [] w5 w' → w'.cell? ⟨mb, 0, none⟩ = some (.slice (some ⟨gw, 0, none⟩) n n) ∧ w'.cell? ⟨hb, 0, none⟩ = some (.pointer (some ⟨mb, 0, none⟩)) ∧ w'.cell? ⟨gw, a, none⟩ = some (.int .i64 (ws'[a]?.getD 0)) ∧ w'.frozen? ⟨gw, a, none⟩ = false) from fun w' K => ⟨(K.cell (lt_of_cell2 q5) (by simp) 0).trans q5, (K.cell (lt_of_cell2 b5) (by simp) 0).trans b5, (K.cell (lt_of_cell2 q6) (by simp) a).trans q6, by
        have e := K.block gw (lt_of_cell2 q6) (by simp)
        unfold World.frozen? at q7 ⊢
        rw [e]; exact q7⟩)
      generalize ws'[a]?.getD 0 = xo at q6 HQ
      clear t5 HAA hn hx HS3
      go_wp2_with fail
      go_cut [] from 25 to 36 (fun wz => Hid (Has w0 F0 ((((rrawA hb mb (ws'.set a x) kd' ds).star (blockA bx (.cells #[.int .i64 k, .int .i64 c, .int .i64 l, .bool false] 68))).star (blockA bz (.cells #[.int .i64 0, .int .i64 0] 73))).star (blockA by' (.cells #[.int .i64 a, .int .i64 0] 73))) wz))
      case first =>
        go_region_law (first | (go_simp; refine (rputh_yes k c l false _ HM.out).mono ?_; rw [HP.out]; rintro e w6 ⟨rfl, hK6⟩; obtain ⟨m0, m1, m2, m3⟩ := HQ.out _ ((Keep.drew [] w5).trans hK6); have hH6 := (HH5.out.keep0 (Keep.drew [] w5)).keep0 hK6; have HH6 := (show Hid (Has w0 F0 ((((rrawA hb mb ws' kd' ds).star (blockA bx (.cells #[.int .i64 k, .int .i64 c, .int .i64 l, .bool false] 68))).star (blockA bz (.cells #[.int .i64 0, .int .i64 0] 73))).star (blockA by' (.cells #[.int .i64 a, .int .i64 0] 73))) w6) from hH6); obtain ⟨i0, i1⟩ := two_cells hH6.blk; obtain ⟨j0, j1, j2, j3⟩ := four_cells hH6.fst.fst.blk; clear hH6))
        all_goals (
          go_wp2_with fail
          go_meet
          exact (HH6.out.left (fun F e => (Has.start e).left (fun F e => (Has.start e).left (fun F e => (Has.start e).rset m0 a x)))))
      case rest =>
        have H7 : Has w0 F0 ((((rrawA hb mb (ws'.set a x) kd' ds).star (blockA bx (.cells #[.int .i64 k, .int .i64 c, .int .i64 l, .bool false] 68))).star (blockA bz (.cells #[.int .i64 0, .int .i64 0] 73))).star (blockA by' (.cells #[.int .i64 a, .int .i64 0] 73))) wc := hcut.out
        obtain ⟨i0, i1⟩ := two_cells H7.blk
        obtain ⟨d0, d1⟩ := two_cells H7.fst.blk
        obtain ⟨f0, f1⟩ := two_free H7.fst.blk
        have HH7 := (show Hid (Has w0 F0 ((((rrawA hb mb (ws'.set a x) kd' ds).star (blockA bx (.cells #[.int .i64 k, .int .i64 c, .int .i64 l, .bool false] 68))).star (blockA bz (.cells #[.int .i64 0, .int .i64 0] 73))).star (blockA by' (.cells #[.int .i64 a, .int .i64 0] 73))) wc) from H7)
        clear H7 HH5 HQ x0 x1 x2 x3 q5 q6 q7 b5
        go_wp2_with fail
        obtain ⟨z, hk6⟩ := two_put HH7.out.fst.blk (.int .i64 a) (.int .i64 0)
        refine bodyPost_ret (results_cell_row rfl _ _ bz 73 #[.int .i64 a, .int .i64 0] (0, 0) _ rfl z Tryz.underlying73 rfl (by kernel_rfl)) rfl ?_
        exact ⟨rfl, by rw [HSR.out]; exact (HH7.out.fst.block hk6 z).fst.fst⟩
theorem rmake (k c l N E : Int) (f : Bool) (ws' : List Int) (kd' : List PK) (w : World) (h : Has w0 F0 (rheapA hb ws kd ds) w) (hT : MakeT kd ws ds k c l f N E ws' kd') :
    Calls Tryz.prog 30 #[.pointer (some ⟨hb, 0, none⟩), .agg #[.int .i64 k, .int .i64 c, .int .i64 l, .bool f]] w fun e w' => e = .returned (.agg #[.int .i64 N, .int .i64 E]) ∧ Has w0 F0 (rheapA hb ws' kd' ds) w' := by
  have hf := h.rfine
  have hf' := (hT.fine hf).1
  obtain ⟨mb, hr⟩ := h.rraw
  cases hT with
  | arg hm => exact has_same h (rmake_no k c l 1 f w (fun w1 _ => rmay9_arg k c l f w1 hm) (by omega))
  | fits E hm e hF hE => subst e; exact has_same h (rmake_no k c l E false w (fun w1 K => rmay9_fits k c l E w1 (hr.keep0 K) hm hF) hE)
  | full hm e hF hA =>
    subst e
    refine (rmake_any k c l 0 3 ws kd w hr hf.wf hm (.no (by have := mayH_bd hm; have := room_ge (l + 1) (by omega) (by omega); omega) hA) (fun w1 K => rmay9_fits k c l 0 w1 (hr.keep0 K) hm hF) (.inl rfl) 0 0 (by omega) ws (fun _ => rfl) (by omega)).mono ?_
    rintro e w' ⟨rfl, hX⟩
    exact ⟨rfl, hX.rheap hf⟩
  | yes a b kd' hm e hF hA hb' =>
    subst e
    obtain ⟨b', hb2, h1, h2, h3, h4, h5, _⟩ := hA.spec hf.wf
    have hl := hf.len
    refine (rmake_any k c l a 0 _ kd' w hr hf.wf hm (.yes a b kd' hA hb') (fun w1 K => rmay9_fits k c l 0 w1 (hr.keep0 K) hm hF) (.inr rfl) a _ (fun _ => ⟨rfl, ?_, rfl⟩) _ (by omega) (fun _ => rfl)).mono ?_
    · have := hf'.len
      rw [List.length_set, fill0_length _ _ _ (by omega)] at this
      omega
    · rintro e w' ⟨rfl, hX⟩
      exact ⟨rfl, hX.rheap hf'⟩
end

end Go.Proofs.YtgpidokklhjfdaaGreat

/-
  Package object: what Make, Final and New answer and leave.
-/
namespace Go.Proofs.YtgpidokklhjfdaaGreat
open Go.RowKit

section
variable {w0 : World} {F0 : List Nat} {hb : Nat} {ws : List Int} {kd : List PK} {ds : List (Int × List Int)}

set_option maxRecDepth 100000 in
set_option maxHeartbeats 1600000 in
theorem omake_full {sb tb : Nat} (k c l : Int) (w : World) (h : Has w0 F0 (rawA hb sb tb ws kd ds) w) (hw : WF kd) (hm : mayH k c l false = true) (hT : FitsT ds k c l 0) (hl : ds.length ≤ 256) (hr : AllocT kd ws (l + 1) 0 3 ws kd) :
    Calls Tryz.prog 25 #[.pointer (some ⟨hb, 0, none⟩), .agg #[.int .i64 k, .int .i64 c, .int .i64 l, .bool false]] w fun e w' => e = .returned (.tuple #[.int .i64 0, .int .i64 3]) ∧ Has w0 F0 (rawA hb sb tb ws kd ds) w' := by
  have hK := Keep.alloc [] w (.cells #[.int .i64 k, .int .i64 c, .int .i64 l, .bool false] 68)
  have hx := heap_alloc_new w (.cells #[.int .i64 k, .int .i64 c, .int .i64 l, .bool false] 68)
  obtain ⟨g0, g1, g2, g3⟩ := four_cells hx
  have HX := (show Hid (Has w0 F0 ((rawA hb sb tb ws kd ds).star (blockA w.heap.size (.cells #[.int .i64 k, .int .i64 c, .int .i64 l, .bool false] 68))) (w.alloc (.cells #[.int .i64 k, .int .i64 c, .int .i64 l, .bool false] 68))) from h.more hK ⟨rfl, hx⟩ (fun k hk => by simp at hk; omega))
  have HM := (show Hid (mayH k c l false = true) from hm)
  have HT := (show Hid (FitsT ds k c l 0) from hT)
  have hbd := mayH_bd hm
  have HR := (show Hid (AllocT kd ws (l + 1) 0 3 ws kd) from hr)
  have HWR := (show Hid (IntKind.i64.wrap (l + 1) = l + 1) from IntWalk.i64_in _ (by omega))
  clear hm h hT hr
  go_enter Tryz.func25, Tryz.ntmps25
  go_wp2_with (first | (go_at_call 52; refine (hmay_any k c l false _).mono ?_; rw [HM.out]; rintro e w1 ⟨rfl, hK1⟩; have hx1 := hK1.blk hx (by simp); obtain ⟨d0, d1, d2, d3⟩ := four_cells hx1) | (go_at_call 53; refine (ofits k c l 0 false _ (HX.out.fst.keep0 hK1) HT.out hl).mono ?_; rintro e w2 ⟨rfl, hK2⟩))
  have hx2 := hK2.blk hx1 (by simp)
  have hX2 := ((HX.out.keep0 hK1).keep0 hK2).keep0 (Keep.drew [] w2)
  obtain ⟨b0, b1, _⟩ := hX2.fst.cells
  have HX2 := (show Hid (Has w0 F0 ((rawA hb sb tb ws kd ds).star (blockA w.heap.size (.cells #[.int .i64 k, .int .i64 c, .int .i64 l, .bool false] 68))) w2.drew) from hX2)
  obtain ⟨p0, p1, p2, p3⟩ := four_cells ((Keep.drew [] w2).blk hx2 (by simp))
  clear hX2 hx hx1 hx2 hK hK1 hK2 d0 d1 d2 d3 g0 g1 g2 g3
  go_region_held3 (fun wz => wz.cell? ⟨hb, 0, none⟩ = some (.pointer (some ⟨sb, 0, none⟩)) ∧ wz.cell? ⟨w.heap.size, 2, none⟩ = some (.int .i64 l)) (go_keep) (first | (go_at_call 54; rw [HWR.out]; refine (has_left HX2.out (fun F hF => xalloc _ (l + 1) 0 3 ws kd hF hw HR.out)).mono ?_; rintro e w3 ⟨rfl, hX3⟩; have HX3 := (show Hid (Has w0 F0 ((rawA hb sb tb ws kd ds).star (blockA w.heap.size (.cells #[.int .i64 k, .int .i64 c, .int .i64 l, .bool false] 68))) w3) from hX3); obtain ⟨u0, u1, _⟩ := hX3.fst.cells; obtain ⟨v0, v1, v2, v3⟩ := four_cells (hX3.snd.fact (fun _ h => h.2)); clear hX3))
  go_wp2_with fail
  go_ret2
  exact ⟨rfl, HX3.out.fst⟩
set_option maxRecDepth 100000 in
set_option maxHeartbeats 1600000 in
theorem omake_yes {sb tb : Nat} (k c l : Int) (a : Nat) (ws' : List Int) (kd' : List PK) (w : World) (h : Has w0 F0 (rawA hb sb tb ws kd ds) w) (hw : WF kd) (hm : mayH k c l false = true) (hT : FitsT ds k c l 0) (hl : ds.length ≤ 256) (hr : AllocT kd ws (l + 1) a 0 ws' kd') (hlt : a < ws'.length) :
    Calls Tryz.prog 25 #[.pointer (some ⟨hb, 0, none⟩), .agg #[.int .i64 k, .int .i64 c, .int .i64 l, .bool false]] w fun e w' => e = .returned (.tuple #[.int .i64 a, .int .i64 0]) ∧ Has w0 F0 (rawA hb sb tb (ws'.set a (putH k c l false)) kd' ds) w' := by
  have hK := Keep.alloc [] w (.cells #[.int .i64 k, .int .i64 c, .int .i64 l, .bool false] 68)
  have hx := heap_alloc_new w (.cells #[.int .i64 k, .int .i64 c, .int .i64 l, .bool false] 68)
  obtain ⟨g0, g1, g2, g3⟩ := four_cells hx
  have HX := (show Hid (Has w0 F0 ((rawA hb sb tb ws kd ds).star (blockA w.heap.size (.cells #[.int .i64 k, .int .i64 c, .int .i64 l, .bool false] 68))) (w.alloc (.cells #[.int .i64 k, .int .i64 c, .int .i64 l, .bool false] 68))) from h.more hK ⟨rfl, hx⟩ (fun k hk => by simp at hk; omega))
  have HM := (show Hid (mayH k c l false = true) from hm)
  have HT := (show Hid (FitsT ds k c l 0) from hT)
  have hbd := mayH_bd hm
  have HR := (show Hid (AllocT kd ws (l + 1) a 0 ws' kd') from hr)
  have HWR := (show Hid (IntKind.i64.wrap (l + 1) = l + 1) from IntWalk.i64_in _ (by omega))
  clear hm h hT hr
  go_enter Tryz.func25, Tryz.ntmps25
  go_wp2_with (first | (go_at_call 52; refine (hmay_any k c l false _).mono ?_; rw [HM.out]; rintro e w1 ⟨rfl, hK1⟩; have hx1 := hK1.blk hx (by simp); obtain ⟨d0, d1, d2, d3⟩ := four_cells hx1) | (go_at_call 53; refine (ofits k c l 0 false _ (HX.out.fst.keep0 hK1) HT.out hl).mono ?_; rintro e w2 ⟨rfl, hK2⟩))
  have hx2 := hK2.blk hx1 (by simp)
  have hX2 := ((HX.out.keep0 hK1).keep0 hK2).keep0 (Keep.drew [] w2)
  obtain ⟨b0, b1, _⟩ := hX2.fst.cells
  have HX2 := (show Hid (Has w0 F0 ((rawA hb sb tb ws kd ds).star (blockA w.heap.size (.cells #[.int .i64 k, .int .i64 c, .int .i64 l, .bool false] 68))) w2.drew) from hX2)
  obtain ⟨p0, p1, p2, p3⟩ := four_cells ((Keep.drew [] w2).blk hx2 (by simp))
  clear hX2 hx hx1 hx2 hK hK1 hK2 d0 d1 d2 d3 g0 g1 g2 g3
  go_region_held3 (fun wz => wz.cell? ⟨hb, 0, none⟩ = some (.pointer (some ⟨sb, 0, none⟩)) ∧ wz.cell? ⟨w.heap.size, 2, none⟩ = some (.int .i64 l)) (go_keep) (first | (go_at_call 54; rw [HWR.out]; refine (has_left HX2.out (fun F hF => xalloc _ (l + 1) a 0 ws' kd' hF hw HR.out)).mono ?_; rintro e w3 ⟨rfl, hX3⟩; have HX3 := (show Hid (Has w0 F0 ((rawA hb sb tb ws' kd' ds).star (blockA w.heap.size (.cells #[.int .i64 k, .int .i64 c, .int .i64 l, .bool false] 68))) w3) from hX3); obtain ⟨u0, u1, _⟩ := hX3.fst.cells; obtain ⟨v0, v1, v2, v3⟩ := four_cells (hX3.snd.fact (fun _ h => h.2)); clear hX3))
  go_wp2_with (first | (go_at_call 55; refine (osethead a k c l false _ HX3.out.fst HM.out hlt).mono ?_; rintro e w4 ⟨rfl, hX4⟩))
  go_ret2
  exact ⟨rfl, hX4⟩
theorem omake (k c l N E : Int) (f : Bool) (ws' : List Int) (kd' : List PK) (w : World) (h : Has w0 F0 (heapA hb ws kd ds) w) (hT : MakeT kd ws ds k c l f N E ws' kd') :
    Calls Tryz.prog 25 #[.pointer (some ⟨hb, 0, none⟩), .agg #[.int .i64 k, .int .i64 c, .int .i64 l, .bool f]] w fun e w' => e = .returned (.tuple #[.int .i64 N, .int .i64 E]) ∧ Has w0 F0 (heapA hb ws' kd' ds) w' := by
  have hf := h.fine
  have hf' := (hT.fine hf).1
  obtain ⟨sb, tb, hr⟩ := h.raw
  cases hT with
  | arg hm => exact has_same h (omake_arg k c l f w hm)
  | fits E hm e hF hE => subst e; exact has_same h (omake_fits k c l E w hr hm hF hE hf.few)
  | full hm e hF hA =>
    subst e
    refine (omake_full k c l w hr hf.wf hm hF hf.few (.no (by have := mayH_bd hm; have := room_ge (l + 1) (by omega) (by omega); omega) hA)).mono ?_
    rintro e w' ⟨rfl, hX⟩
    exact ⟨rfl, hX.heap hf⟩
  | yes a b kd' hm e hF hA hb' =>
    subst e
    obtain ⟨b', hb2, h1, h2, h3, h4, h5, _⟩ := hA.spec hf.wf
    have hl := hf.len
    refine (omake_yes k c l a _ kd' w hr hf.wf hm hF hf.few (.yes a b kd' hA hb') ?_).mono ?_
    · rw [fill0_length _ _ _ (by omega)]; omega
    · rintro e w' ⟨rfl, hX⟩
      exact ⟨rfl, hX.heap hf'⟩

/-! ### Final -/
end

/-! ### New -/
set_option maxHeartbeats 1600000 in
theorem onew_no (n : Int) (w : World) (h : ¬ (1 ≤ n ∧ n ≤ 256)) :
    Calls Tryz.prog 21 #[.int .i64 n] w fun e w' => e = .returned (.tuple #[.pointer none, .int .i64 1]) ∧ Keep [] w w' := by
  have HN := (show Hid (¬ (1 ≤ n ∧ n ≤ 256)) from h)
  clear h
  go_enter Tryz.func21, Tryz.ntmps21
  go_wp2_with (first | (go_at_call 49; refine (snew_no n _ HN.out).mono ?_; rintro e w1 ⟨rfl, rfl⟩))
  go_ret2
  exact ⟨rfl, Keep.refl _ _⟩
set_option maxHeartbeats 1600000 in
theorem onew (n : Nat) (w : World) (h1 : 1 ≤ n) (h2 : n ≤ 256) :
    Calls Tryz.prog 21 #[.int .i64 n] w fun e w' => ∃ hb F, e = .returned (.tuple #[.pointer (some ⟨hb, 0, none⟩), .int .i64 0]) ∧ (heapA hb (zeros (64 * n)) (freshK n) []).at' w' F ∧ Keep [] w w' ∧ ∀ k, k ∈ F → w.heap.size ≤ k := by
  go_enter Tryz.func21, Tryz.ntmps21
  go_wp2_with (first | (go_at_call 49; refine (snew_ok n _ h1 h2).mono ?_; rintro e w1 ⟨sb, F, rfl, hS, hK1, hsb, hF⟩) | (go_at_call 50; refine (tnew _).mono ?_; rintro e w2 ⟨tb, rfl, hT, hK2, htb⟩))
  go_ret2
  have hlb := hT.lt tb (by simp)
  have hlF := hS.lt
  have hs1 := hK1.size
  have hs2 := hK2.size
  have hK3 := Keep.alloc [] w2 (.cells #[.pointer (some ⟨sb, 0, none⟩), .pointer (some ⟨tb, 0, none⟩)] 63)
  refine ⟨_, w2.heap.size :: (F ++ [tb]), rfl, ⟨⟨sb, tb, [w2.heap.size], F ++ [tb], by simp, ⟨rfl, heap_alloc_new w2 _⟩, ⟨F, [tb], by simp, (hS.keep0 hK2).keep0 hK3, hT.keep hK3 (by simp), ?_⟩, ?_⟩, Fine.fresh n h1 h2⟩, (hK1.trans hK2).trans hK3, ?_⟩
  · intro k hk
    have := hlF k hk
    simp; omega
  · intro k hk
    simp at hk
    subst hk
    simp only [List.mem_append, List.mem_singleton, not_or]
    exact ⟨fun e => by have := hlF _ e; omega, by omega⟩
  · intro k hk
    simp at hk
    rcases hk with rfl | hk | rfl
    · omega
    · exact hF k hk
    · omega
/-- A new heap, younger than all there was. -/
theorem onew_has (n : Nat) (w : World) (h1 : 1 ≤ n) (h2 : n ≤ 256) :
    Calls Tryz.prog 21 #[.int .i64 n] w fun e w' => ∃ hb, e = .returned (.tuple #[.pointer (some ⟨hb, 0, none⟩), .int .i64 0]) ∧ Has w [] (heapA hb (zeros (64 * n)) (freshK n) []) w' := by
  refine (onew n w h1 h2).mono ?_
  rintro e w' ⟨hb, F, rfl, hH, hK, hF⟩
  exact ⟨hb, rfl, F, hH, hK, fun k hk => .inr (hF k hk)⟩

end Go.Proofs.YtgpidokklhjfdaaGreat

/-
  Package object: what upTo, words and Refs answer.
-/
namespace Go.Proofs.YtgpidokklhjfdaaGreat
open Go.RowKit

theorem Row.ints {w : World} {t : TypeId} {g : Nat} {L : List Int} (h : Row w t g L) (hb : ∀ i : Nat, inI (L[i]?.getD 0)) : IntsAt w (some ⟨g, 0, none⟩) L :=
  ⟨fun _ => ⟨g, 0, rfl, h.lt, fun i hi => by rw [Nat.zero_add]; exact h.cell hi⟩, fun i => (hb i).1, fun i => (hb i).2⟩
theorem upL_bd (l : Int) (hl : l ≤ 1023) : ∀ i : Nat, inI ((upL l)[i]?.getD 0) := by
  intro i
  by_cases hi : i < l.toNat
  · rw [upL_get l i hi]; unfold inI; omega
  · rw [List.getElem?_eq_none (by rw [upL_length]; omega)]; exact inI_0
/-- The fields of an object of l fields at b. -/
def wordsL (ws : List Int) (b : Nat) (l : Int) : List Int := (List.range l.toNat).map (fun i => ws[b + 1 + i]?.getD 0)
theorem wordsL_length (ws : List Int) (b : Nat) (l : Int) : (wordsL ws b l).length = l.toNat := by simp [wordsL]
theorem wordsL_get (ws : List Int) (b : Nat) (l : Int) (i : Nat) (h : i < l.toNat) : (wordsL ws b l)[i]?.getD 0 = ws[b + 1 + i]?.getD 0 := by simp [wordsL, h]
theorem wordsL_bd {ws : List Int} (h : ∀ i : Nat, inI (ws[i]?.getD 0)) (b : Nat) (l : Int) : ∀ i : Nat, inI ((wordsL ws b l)[i]?.getD 0) := by
  intro i
  by_cases hi : i < l.toNat
  · rw [wordsL_get ws b l i hi]; exact h _
  · rw [List.getElem?_eq_none (by rw [wordsL_length]; omega)]; exact inI_0

set_option maxHeartbeats 1600000 in
theorem oupto (l : Int) (k : Nat) (w : World) (hk : l = k) (hl : l ≤ 1023) :
    Calls Tryz.prog 99 #[.int .i64 l] w fun e w' => ∃ z, e = .returned (.slice (some ⟨z, 0, none⟩) k k) ∧ Row w' 3 z (upL l) ∧ Keep [] w w' ∧ w.heap.size ≤ z := by
  subst hk
  have hmk : ∀ w, (Instr.makeSlice 25 (.int .i64 (k : Int)) (.int .i64 (k : Int))).run Tryz.prog w = .ok (.slice (some ⟨w.heap.size, 0, none⟩) k k) (w.alloc (.cells (madeCells #[.int .i64 0] k) 3)) :=
    fun w => run_make_row' (P := Tryz.prog) 25 3 (.int .i64 0) 8 Tryz.underlying25 Tryz.infoIntC rfl .i64 .i64 k (by omega) (by omega) w
  go_enter Tryz.func99, Tryz.ntmps99
  go_wp2
  have hR := Row.made w 3 k
  have hK := Keep.alloc [] w (.cells (madeCells #[.int .i64 0] k) 3)
  have hz : w.heap.size < (w.alloc (.cells (madeCells #[.int .i64 0] k) 3)).heap.size := by simp
  clear hmk
  generalize w.alloc (.cells (madeCells #[.int .i64 0] k) 3) = w1 at *
  obtain ⟨z, hzz⟩ : ∃ z, w.heap.size = z := ⟨_, rfl⟩
  rw [hzz] at hR hz ⊢
  go_loopw [9] (fun i wr => ∃ (j : Nat) (L : List Int), i = .int .i64 j ∧ j ≤ k ∧ Hid (L.length = k) ∧ Hid (∀ t : Nat, t < j → L[t]?.getD 0 = (t : Int)) ∧ Row wr 3 z L ∧ Keep [z] w wr) (fun i _ => k - (intOf i).toNat)
  case atStart => exact ⟨0, _, rfl, by omega, zeros_length k, fun t h => by omega, hR, hK.mono (by simp)⟩
  case round =>
    obtain ⟨j, L, rfl, hj, HL, HJ, hR2, hK2⟩ := hrel
    clear hR hK
    by_cases hlt : j < k
    · have y1 := hR2.cell (i := j) (by rw [HL.out]; exact hlt)
      have y2 := hR2.free j
      have HR := (show Hid (Row (wr.setCell ⟨z, j, none⟩ (.int .i64 (j : Int))) 3 z (L.set j (j : Int))) from hR2.put j _)
      have hK3 : Keep [z] w (wr.setCell ⟨z, j, none⟩ (.int .i64 (j : Int))) := hK2.trans (Keep.setCell _ _ (by simp))
      clear hR2 hK2
      go_wp2
      go_roundw
      case rel =>
        refine ⟨j + 1, L.set j (j : Int), by go_num, by omega, by show _ = _; rw [List.length_set]; exact HL.out, fun t ht => ?_, HR.out, hK3⟩
        by_cases e : t = j
        · subst e; rw [set_get_same _ _ _ (by rw [HL.out]; exact hlt)]
        · rw [set_get_other _ _ _ _ (fun e' => e e'.symm)]; exact HJ.out t (by omega)
      case measure => simp [intOf]; omega
    · obtain rfl : j = k := by omega
      have hLe : L = upL j := eq_of_getD (by rw [HL.out, upL_length]; omega) (fun t => by
        by_cases ht : t < j
        · rw [HJ.out t ht, upL_get _ t (by omega)]
        · rw [List.getElem?_eq_none (by rw [HL.out]; omega), List.getElem?_eq_none (by rw [upL_length]; omega)])
      rw [hLe] at hR2
      have HR := (show Hid (Row wr 3 z (upL j)) from hR2)
      clear hR2 hLe
      go_wp2
      go_ret
      exact ⟨z, rfl, HR.out, hK2.drop (by simp; omega), by omega⟩

section
variable {w0 : World} {F0 : List Nat} {hb : Nat} {ws : List Int} {kd : List PK} {ds : List (Int × List Int)}
set_option maxHeartbeats 1600000 in
theorem owords {sb tb : Nat} (b k : Nat) (l : Int) (w : World) (h : Has w0 F0 (rawA hb sb tb ws kd ds) w) (hk : l = k) (hl : l ≤ 1023) (hlt : b + k < ws.length) (hb0 : b ≤ 20000) :
    Calls Tryz.prog 47 #[.pointer (some ⟨hb, 0, none⟩), .int .i64 b, .int .i64 l] w fun e w' => ∃ z, e = .returned (.slice (some ⟨z, 0, none⟩) k k) ∧ Row w' 3 z (wordsL ws b l) ∧ Keep [] w w' ∧ w.heap.size ≤ z := by
  subst hk
  have hmk : ∀ w, (Instr.makeSlice 25 (.int .i64 (k : Int)) (.int .i64 (k : Int))).run Tryz.prog w = .ok (.slice (some ⟨w.heap.size, 0, none⟩) k k) (w.alloc (.cells (madeCells #[.int .i64 0] k) 3)) :=
    fun w => run_make_row' (P := Tryz.prog) 25 3 (.int .i64 0) 8 Tryz.underlying25 Tryz.infoIntC rfl .i64 .i64 k (by omega) (by omega) w
  have HX := (show Hid (Has w0 F0 (rawA hb sb tb ws kd ds) w) from h)
  clear h
  go_enter Tryz.func47, Tryz.ntmps47
  go_wp2
  have hR := Row.made w 3 k
  have hK := Keep.alloc [] w (.cells (madeCells #[.int .i64 0] k) 3)
  have hz : w.heap.size < (w.alloc (.cells (madeCells #[.int .i64 0] k) 3)).heap.size := by simp
  clear hmk
  generalize w.alloc (.cells (madeCells #[.int .i64 0] k) 3) = w1 at *
  obtain ⟨z, hzz⟩ : ∃ z, w.heap.size = z := ⟨_, rfl⟩
  rw [hzz] at hR hz ⊢
  go_loopw [13] (fun i wr => ∃ (j : Nat) (L : List Int), i = .int .i64 j ∧ j ≤ k ∧ Hid (L.length = k) ∧ Hid (∀ t : Nat, t < j → L[t]?.getD 0 = ws[b + 1 + t]?.getD 0) ∧ Row wr 3 z L ∧ Keep [z] w wr) (fun i _ => k - (intOf i).toNat)
  case atStart => exact ⟨0, _, rfl, by omega, zeros_length k, fun t h => by omega, hR, hK.mono (by simp)⟩
  case round =>
    obtain ⟨j, L, rfl, hj, HL, HJ, hR2, hK2⟩ := hrel
    clear hR hK
    have hK0 : Keep [] w wr := hK2.drop (by simp; omega)
    by_cases hlt2 : j < k
    · have y1 := hR2.cell (i := j) (by rw [HL.out]; exact hlt2)
      have y2 := hR2.free j
      obtain ⟨x, hx⟩ : ∃ x, ws[b + 1 + j]?.getD 0 = x := ⟨_, rfl⟩
      have HV := (show Hid (ws[b + 1 + j]?.getD 0 = x) from hx)
      have HR := (show Hid (Row (wr.setCell ⟨z, j, none⟩ (.int .i64 x)) 3 z (L.set j x)) from hR2.put j _)
      have hK3 : Keep [z] w (wr.setCell ⟨z, j, none⟩ (.int .i64 x)) := hK2.trans (Keep.setCell _ _ (by simp))
      obtain ⟨c0, _, ⟨ab, ag, c2, hAr⟩, _, _⟩ := (HX.out.keep0 hK0).cells
      obtain ⟨p, hp⟩ : ∃ p : Nat, b + 1 + j = p := ⟨_, rfl⟩
      have hpi : (b : Int) + 1 + j = p := by omega
      have hpl : p < ws.length := by omega
      rw [hp] at HV
      clear hR2 hK2 hx hp
      go_wp2_with (first | (go_at_call 75; refine (xload _ ab ag p hAr hpl).mono ?_; rw [HV.out]; rintro e w' ⟨rfl, rfl⟩))
      go_roundw
      case rel =>
        refine ⟨j + 1, L.set j x, by go_num, by omega, by show _ = _; rw [List.length_set]; exact HL.out, fun t ht => ?_, HR.out, hK3⟩
        by_cases e : t = j
        · subst e; rw [set_get_same _ _ _ (by rw [HL.out]; exact hlt2), show b + 1 + t = p by omega]; exact HV.out.symm
        · rw [set_get_other _ _ _ _ (fun e' => e e'.symm)]; exact HJ.out t (by omega)
      case measure => simp [intOf]; omega
    · obtain rfl : j = k := by omega
      have hLe : L = wordsL ws b j := eq_of_getD (by rw [HL.out, wordsL_length]; omega) (fun t => by
        by_cases ht : t < j
        · rw [HJ.out t ht, wordsL_get _ _ _ t (by omega)]
        · rw [List.getElem?_eq_none (by rw [HL.out]; omega), List.getElem?_eq_none (by rw [wordsL_length]; omega)])
      rw [hLe] at hR2
      have HR := (show Hid (Row wr 3 z (wordsL ws b j)) from hR2)
      clear hR2 hLe
      go_wp2
      go_ret
      exact ⟨z, rfl, HR.out, hK0, by omega⟩
set_option maxHeartbeats 1600000 in
theorem orefs_other (pv : Option Addr) (a k c l E : Int) (f : Bool) (w : World) (hk : k ≠ 1 ∧ k ≠ 2 ∧ k ≠ 4) (hc : Calls Tryz.prog 46 #[.pointer pv, .int .i64 a] w fun e w' => e = .returned (.tuple #[.agg #[.int .i64 k, .int .i64 c, .int .i64 l, .bool f], .int .i64 E]) ∧ Keep [] w w') :
    Calls Tryz.prog 68 #[.pointer pv, .int .i64 a] w fun e w' => e = .returned (.slice none 0 0) ∧ Keep [] w w' := by
  have HC := (show Hid (Calls Tryz.prog 46 #[.pointer pv, .int .i64 a] w fun e w' => e = .returned (.tuple #[.agg #[.int .i64 k, .int .i64 c, .int .i64 l, .bool f], .int .i64 E]) ∧ Keep [] w w') from hc)
  have hd1 : (k == 1) = false := by simpa using hk.1
  have hd2 : (k == 2) = false := by simpa using hk.2.1
  have hd4 : (k == 4) = false := by simpa using hk.2.2
  clear hc
  go_enter Tryz.func68, Tryz.ntmps68
  go_wp2_with (first | (go_at_call 46; refine HC.out.mono ?_; rintro e w1 ⟨rfl, hK1⟩; obtain ⟨g0, g1, g2, g3⟩ := four_cells (heap_alloc_new w1 (.cells #[.int .i64 k, .int .i64 c, .int .i64 l, .bool f] 68))))
  go_ret
  exact ⟨rfl, hK1.trans (Keep.alloc [] _ _)⟩
set_option maxHeartbeats 1600000 in
theorem orefs_ref (pv : Option Addr) (a c l E : Int) (f : Bool) (w : World) (hc : Calls Tryz.prog 46 #[.pointer pv, .int .i64 a] w fun e w' => e = .returned (.tuple #[.agg #[.int .i64 4, .int .i64 c, .int .i64 l, .bool f], .int .i64 E]) ∧ Keep [] w w') :
    Calls Tryz.prog 68 #[.pointer pv, .int .i64 a] w fun e w' => ∃ z, e = .returned (.slice (some ⟨z, 0, none⟩) 1 1) ∧ Row w' 3 z [2] ∧ w.heap.size ≤ z ∧ Keep [] w w' := by
  have HC := (show Hid (Calls Tryz.prog 46 #[.pointer pv, .int .i64 a] w fun e w' => e = .returned (.tuple #[.agg #[.int .i64 4, .int .i64 c, .int .i64 l, .bool f], .int .i64 E]) ∧ Keep [] w w') from hc)
  clear hc
  go_enter Tryz.func68, Tryz.ntmps68
  go_wp2_with (first | (go_at_call 46; refine HC.out.mono ?_; rintro e w1 ⟨rfl, hK1⟩; obtain ⟨g0, g1, g2, g3⟩ := four_cells (heap_alloc_new w1 (.cells #[.int .i64 4, .int .i64 c, .int .i64 l, .bool f] 68))))
  go_ret
  have hs := hK1.size
  exact ⟨_, rfl, second_block w1 _ _ _, by omega, (hK1.trans (Keep.alloc [] _ _)).trans (Keep.alloc [] _ _)⟩
set_option maxHeartbeats 1600000 in
theorem orefs_all (pv : Option Addr) (a c l E : Int) (q : Nat) (f : Bool) (w : World) (hq : l = q) (hl : l ≤ 1023) (hc : Calls Tryz.prog 46 #[.pointer pv, .int .i64 a] w fun e w' => e = .returned (.tuple #[.agg #[.int .i64 2, .int .i64 c, .int .i64 l, .bool f], .int .i64 E]) ∧ Keep [] w w') :
    Calls Tryz.prog 68 #[.pointer pv, .int .i64 a] w fun e w' => ∃ z, e = .returned (.slice (some ⟨z, 0, none⟩) q q) ∧ Row w' 3 z (upL l) ∧ w.heap.size ≤ z ∧ Keep [] w w' := by
  have HC := (show Hid (Calls Tryz.prog 46 #[.pointer pv, .int .i64 a] w fun e w' => e = .returned (.tuple #[.agg #[.int .i64 2, .int .i64 c, .int .i64 l, .bool f], .int .i64 E]) ∧ Keep [] w w') from hc)
  have HQ := (show Hid (l = q) from hq)
  clear hc hq
  go_enter Tryz.func68, Tryz.ntmps68
  go_wp2_with (first | (go_at_call 46; refine HC.out.mono ?_; rintro e w1 ⟨rfl, hK1⟩; obtain ⟨g0, g1, g2, g3⟩ := four_cells (heap_alloc_new w1 (.cells #[.int .i64 2, .int .i64 c, .int .i64 l, .bool f] 68))) | (go_at_call 99; refine (oupto l q _ HQ.out hl).mono ?_; rintro e w2 ⟨z, rfl, hR, hK2, hz⟩))
  go_ret
  have hs := hK1.size
  simp at hz
  exact ⟨z, rfl, hR, by omega, (hK1.trans (Keep.alloc [] _ _)).trans hK2⟩
set_option maxRecDepth 100000 in
set_option maxHeartbeats 3200000 in
theorem orefs_plain {sb tb : Nat} (i : Nat) (a c l n : Int) (f : Bool) (L : List Int) (w : World) (h : Has w0 F0 (rawA hb sb tb ws kd ds) w) (hci : c = (i : Int) + 1) (hi : ds[i]? = some (n, L)) (hl : ds.length ≤ 256) (hc : Calls Tryz.prog 46 #[.pointer (some ⟨hb, 0, none⟩), .int .i64 a] w fun e w' => e = .returned (.tuple #[.agg #[.int .i64 1, .int .i64 c, .int .i64 l, .bool f], .int .i64 0]) ∧ Keep [] w w') :
    Calls Tryz.prog 68 #[.pointer (some ⟨hb, 0, none⟩), .int .i64 a] w fun e w' => ∃ la lc, e = .returned (.slice la L.length lc) ∧ IntsAt w' la L ∧ (∀ x, la = some x → w.heap.size ≤ x.block) ∧ Keep [] w w' := by
  have HC := (show Hid (Calls Tryz.prog 46 #[.pointer (some ⟨hb, 0, none⟩), .int .i64 a] w fun e w' => e = .returned (.tuple #[.agg #[.int .i64 1, .int .i64 c, .int .i64 l, .bool f], .int .i64 0]) ∧ Keep [] w w') from hc)
  have HCI := (show Hid (c = (i : Int) + 1) from hci)
  have HX := (show Hid (Has w0 F0 (rawA hb sb tb ws kd ds) w) from h)
  clear hc hci h
  go_enter Tryz.func68, Tryz.ntmps68
  go_upto_region 4 with (first | (go_at_call 46; refine HC.out.mono ?_; rintro e w9 ⟨rfl, hK9⟩; have hx := heap_alloc_new w9 (.cells #[.int .i64 1, .int .i64 c, .int .i64 l, .bool f] 68); obtain ⟨g0, g1, g2, g3⟩ := four_cells hx))
  have hK := hK9.trans (Keep.alloc [] w9 (.cells #[.int .i64 1, .int .i64 c, .int .i64 l, .bool f] 68))
  have h1 := HX.out.keep0 hK
  generalize w9.alloc (.cells #[.int .i64 1, .int .i64 c, .int .i64 l, .bool f] 68) = w1 at *
  have hlx := lt_of_block hx
  have hs9 := hK9.size
  obtain ⟨bx, hbx⟩ : ∃ bx, w9.heap.size = bx := ⟨_, rfl⟩
  rw [hbx] at hx hlx hs9 ⊢
  clear g0 g1 g2 g3 hK9 hbx
  obtain ⟨g0, g1, g2, g3⟩ := four_cells hx
  obtain ⟨c0, c1, _⟩ := h1.cells
  obtain ⟨F, hT⟩ := h1.tab
  have HT := (show Hid (∀ w', Keep [] w1 w' → IsTab w' tb F ds) from fun w' K => hT.keep K (by simp))
  have hKz := (Keep.alloc [] w1 (.cells #[.int .i64 0, .slice none 0 0] 76)).trans (Keep.drew [] _)
  obtain ⟨b0, b1, _⟩ := (h1.keep0 hKz).cells
  obtain ⟨d0, d1, d2, d3⟩ := four_cells (hKz.blk hx (by simp))
  have hn1 := World.new_ne _ _ c1
  have hn2 := World.new_ne _ _ g1
  clear h1 hT
  go_region_law (first | (go_simp; refine (tclass_at tb i F ds n c L _ (HT.out _ (by first | exact Keep.drew [] _ | exact (Keep.alloc [] _ _).trans (Keep.drew [] _))) hi (by omega) HCI.out).mono ?_; rintro e w2 ⟨la, lc, rfl, HG, hK2⟩; have hKe : Keep [] w1 w2 := (by first | exact (Keep.drew [] _).trans hK2 | exact ((Keep.alloc [] _ _).trans (Keep.drew [] _)).trans hK2); obtain ⟨q0, q1, q2, q3⟩ := four_cells (hKe.blk hx (by simp)); have hn3 : w2.heap.size ≠ bx := World.new_ne _ _ q1; have hn4 := hn3.symm; try (have hz := hK2.blk (heap_alloc_new w1 (.cells #[.int .i64 0, .slice none 0 0] 76)) (by simp); obtain ⟨u0, u1⟩ := two_cells hz; obtain ⟨v0, v1⟩ := two_free hz)))
  all_goals first
    | (obtain ⟨hz1, hk4⟩ := two_put hz (.int .i64 n) (.slice la L.length lc)
       have hKf := hK.trans (((hKe.mono (T := [w1.heap.size]) (by simp)).trans hk4).drop (by simp))
       have HI := (show Hid (IntsAt ((w2.setCell ⟨w1.heap.size, 0, none⟩ (.int .i64 n)).setCell ⟨w1.heap.size, 1, none⟩ (.slice la L.length lc)) la L ∧ ∀ x, la = some x → w.heap.size ≤ x.block) from by
         obtain ⟨_, _, e, h1, h2, h3⟩ := HG
         cases e
         have := hK.size
         refine ⟨h1.keep hk4 (fun _ x e => ?_), fun x e => ?_⟩
         · have := (h3 x e).1; simp at this ⊢; omega
         · have := (h3 x e).1; simp at this; omega)
       clear hk4 hz u0 u1 v0 v1 HG
       generalize (w2.setCell ⟨w1.heap.size, 0, none⟩ (.int .i64 n)).setCell ⟨w1.heap.size, 1, none⟩ (.slice la L.length lc) = wz at *)
    | (have hz1 := heap_alloc_new w2 (.cells #[.int .i64 n, .slice la L.length lc] 76)
       have hKf := (hK.trans hKe).trans (Keep.alloc [] w2 (.cells #[.int .i64 n, .slice la L.length lc] 76))
       have HI := (show Hid (IntsAt (w2.alloc (.cells #[.int .i64 n, .slice la L.length lc] 76)) la L ∧ ∀ x, la = some x → w.heap.size ≤ x.block) from by
         obtain ⟨_, _, e, h1, h2, h3⟩ := HG
         cases e
         have := hK.size
         refine ⟨h1.keep (Keep.alloc [] _ _) (fun _ x e => by simp), fun x e => ?_⟩
         have := (h3 x e).1; simp at this; omega)
       clear HG
       generalize w2.alloc (.cells #[.int .i64 n, .slice la L.length lc] 76) = wz at *)
  all_goals (obtain ⟨t0, t1⟩ := two_cells hz1; clear hz1 q0 q1 q2 q3 hKe hK2)
  all_goals (go_wp2_with fail)
  all_goals go_ret
  all_goals exact ⟨la, ⟨lc, rfl⟩, HI.out.1, HI.out.2, hKf⟩
theorem two_bd : ∀ i : Nat, inI (([2] : List Int)[i]?.getD 0) := by
  intro i
  rcases i with _ | i <;> simp [inI]
theorem orefs (a : Int) (L : List Int) (w : World) (h : Has w0 F0 (heapA hb ws kd ds) w) (hT : RefsT kd ws ds a L) :
    Calls Tryz.prog 68 #[.pointer (some ⟨hb, 0, none⟩), .int .i64 a] w fun e w' => ∃ la lc, e = .returned (.slice la L.length lc) ∧ IntsAt w' la L ∧ (∀ x, la = some x → w.heap.size ≤ x.block) ∧ Keep [] w w' := by
  have hf := h.fine
  obtain ⟨sb, tb, hr⟩ := h.raw
  cases hT with
  | none hn =>
    refine (orefs_other _ a _ _ _ _ _ w (by omega) (ohead a _ _ _ _ _ w h (.no hn))).mono ?_
    rintro e w' ⟨rfl, hK⟩
    exact ⟨none, 0, rfl, IntsAt.nil _ _, by simp, hK⟩
  | data b m c l f hA =>
    refine (orefs_other _ a _ _ _ _ _ w (by omega) (ohead a _ _ _ _ _ w h (.yes b m 3 c l f hA))).mono ?_
    rintro e w' ⟨rfl, hK⟩
    exact ⟨none, 0, rfl, IntsAt.nil _ _, by simp, hK⟩
  | ref b m c l f hA =>
    refine (orefs_ref _ a _ _ _ _ w (ohead a _ _ _ _ _ w h (.yes b m 4 c l f hA))).mono ?_
    rintro e w' ⟨z, rfl, hR, hz, hK⟩
    exact ⟨_, 1, rfl, hR.ints two_bd, fun x e => by cases e; exact hz, hK⟩
  | refs b m c l f hA =>
    have hbd := hA.2.2.bd
    obtain ⟨q, hq⟩ := Int.eq_ofNat_of_zero_le hbd.2.2.2.2.1
    refine (orefs_all _ a _ l _ q _ w hq (by omega) (ohead a _ _ _ _ _ w h (.yes b m 2 c l f hA))).mono ?_
    rintro e w' ⟨z, rfl, hR, hz, hK⟩
    exact ⟨_, q, by rw [upL_length, hq]; rfl, hR.ints (upL_bd l (by omega)), fun x e => by cases e; exact hz, hK⟩
  | plain b m i c l f L hA hci hi => exact orefs_plain i a c l l f L w hr hci hi hf.few (ohead a _ _ _ _ _ w h (.yes b m 1 c l f hA))
theorem orefs_nil (a : Int) (w : World) :
    Calls Tryz.prog 68 #[.pointer none, .int .i64 a] w fun e w' => e = .returned (.slice none 0 0) ∧ Keep [] w w' :=
  orefs_other none a _ _ _ _ _ w (by omega) (ohead_nil a w)
end

end Go.Proofs.YtgpidokklhjfdaaGreat

/-
  The document's own heap: Final, Refs, a new one.
-/
namespace Go.Proofs.YtgpidokklhjfdaaGreat
open Go.RowKit

section
variable {w0 : World} {F0 : List Nat} {hb : Nat} {ws : List Int} {kd : List PK} {ds : List (Int × List Int)}
end

end Go.Proofs.YtgpidokklhjfdaaGreat

/-
  The document's own heap: Refs, a new one.
-/
namespace Go.Proofs.YtgpidokklhjfdaaGreat
open Go.RowKit

theorem upL_snoc (q : Nat) : upL ((q + 1 : Nat) : Int) = upL (q : Int) ++ [(q : Int)] := by
  unfold upL
  rw [Int.toNat_natCast, Int.toNat_natCast, List.range_succ, List.map_append]; rfl
section
variable {w0 : World} {F0 : List Nat} {hb : Nat} {ws : List Int} {kd : List PK} {ds : List (Int × List Int)}
set_option maxRecDepth 100000 in
set_option maxHeartbeats 1600000 in
theorem rrefs_other (a k c l : Int) (f ok : Bool) (w : World) (hk : ok = false ∨ (k ≠ 1 ∧ k ≠ 2 ∧ k ≠ 4)) (hc : Calls Tryz.prog 41 #[.pointer (some ⟨hb, 0, none⟩), .int .i64 a] w fun e w' => e = .returned (.agg #[.int .i64 k, .int .i64 c, .int .i64 l, .bool f, .bool ok]) ∧ Keep [] w w') :
    Calls Tryz.prog 42 #[.pointer (some ⟨hb, 0, none⟩), .int .i64 a] w fun e w' => e = .returned (.slice none 0 0) ∧ Keep [] w w' := by
  have HC := (show Hid (Calls Tryz.prog 41 #[.pointer (some ⟨hb, 0, none⟩), .int .i64 a] w fun e w' => e = .returned (.agg #[.int .i64 k, .int .i64 c, .int .i64 l, .bool f, .bool ok]) ∧ Keep [] w w') from hc)
  clear hc
  cases ok with
  | false =>
    clear hk
    go_enter Tryz.func42, Tryz.ntmps42
    go_wp2_with (first | (go_at_call 41; refine HC.out.mono ?_; rintro e w1 ⟨rfl, hK1⟩; obtain ⟨_, g0, g1, g2, g3, g4⟩ := five_free (heap_alloc_new w1 (.cells #[.int .i64 k, .int .i64 c, .int .i64 l, .bool f, .bool false] 97))))
    go_ret
    exact ⟨rfl, hK1.trans (Keep.alloc [] _ _)⟩
  | true =>
    have hk' : k ≠ 1 ∧ k ≠ 2 ∧ k ≠ 4 := by simpa using hk
    have hd1 : (k == 1) = false := by simpa using hk'.1
    have hd2 : (k == 2) = false := by simpa using hk'.2.1
    have hd4 : (k == 4) = false := by simpa using hk'.2.2
    clear hk hk'
    go_enter Tryz.func42, Tryz.ntmps42
    go_wp2_with (first | (go_at_call 41; refine HC.out.mono ?_; rintro e w1 ⟨rfl, hK1⟩; obtain ⟨_, g0, g1, g2, g3, g4⟩ := five_free (heap_alloc_new w1 (.cells #[.int .i64 k, .int .i64 c, .int .i64 l, .bool f, .bool true] 97))))
    go_ret
    exact ⟨rfl, hK1.trans (Keep.alloc [] _ _)⟩
set_option maxRecDepth 100000 in
set_option maxHeartbeats 1600000 in
theorem rrefs_ref (a c l : Int) (f : Bool) (w : World) (hc : Calls Tryz.prog 41 #[.pointer (some ⟨hb, 0, none⟩), .int .i64 a] w fun e w' => e = .returned (.agg #[.int .i64 4, .int .i64 c, .int .i64 l, .bool f, .bool true]) ∧ Keep [] w w') :
    Calls Tryz.prog 42 #[.pointer (some ⟨hb, 0, none⟩), .int .i64 a] w fun e w' => ∃ z, e = .returned (.slice (some ⟨z, 0, none⟩) 1 1) ∧ Row w' 3 z [2] ∧ w.heap.size ≤ z ∧ Keep [] w w' := by
  have HC := (show Hid (Calls Tryz.prog 41 #[.pointer (some ⟨hb, 0, none⟩), .int .i64 a] w fun e w' => e = .returned (.agg #[.int .i64 4, .int .i64 c, .int .i64 l, .bool f, .bool true]) ∧ Keep [] w w') from hc)
  clear hc
  go_enter Tryz.func42, Tryz.ntmps42
  go_wp2_with (first | (go_at_call 41; refine HC.out.mono ?_; rintro e w1 ⟨rfl, hK1⟩; obtain ⟨_, g0, g1, g2, g3, g4⟩ := five_free (heap_alloc_new w1 (.cells #[.int .i64 4, .int .i64 c, .int .i64 l, .bool f, .bool true] 97))))
  go_ret
  have hs := hK1.size
  exact ⟨_, rfl, second_block w1 _ _ _, by omega, (hK1.trans (Keep.alloc [] _ _)).trans (Keep.alloc [] _ _)⟩
set_option maxRecDepth 100000 in
set_option maxHeartbeats 1600000 in
theorem rrefs_plain {mb : Nat} (i : Nat) (a c l n : Int) (f : Bool) (L : List Int) (w : World) (h : Has w0 F0 (rrawA hb mb ws kd ds) w) (hci : c = (i : Int) + 1) (hi : ds[i]? = some (n, L)) (hl : ds.length ≤ 256) (hc : Calls Tryz.prog 41 #[.pointer (some ⟨hb, 0, none⟩), .int .i64 a] w fun e w' => e = .returned (.agg #[.int .i64 1, .int .i64 c, .int .i64 l, .bool f, .bool true]) ∧ Keep [] w w') :
    Calls Tryz.prog 42 #[.pointer (some ⟨hb, 0, none⟩), .int .i64 a] w fun e w' => ∃ la lc, e = .returned (.slice la L.length lc) ∧ IntsAt w' la L ∧ Keep [] w w' := by
  have HC := (show Hid (Calls Tryz.prog 41 #[.pointer (some ⟨hb, 0, none⟩), .int .i64 a] w fun e w' => e = .returned (.agg #[.int .i64 1, .int .i64 c, .int .i64 l, .bool f, .bool true]) ∧ Keep [] w w') from hc)
  have HX := (show Hid (Has w0 F0 (rrawA hb mb ws kd ds) w) from h)
  have HI := (show Hid (ds[i]? = some (n, L)) from hi)
  have hin : i < ds.length := by
    rcases Nat.lt_or_ge i ds.length with h | h
    · exact h
    · rw [List.getElem?_eq_none h] at hi; cases hi
  have hci2 : c - 1 = i := by omega
  obtain ⟨m, hm⟩ : ∃ m, L.length = m := ⟨_, rfl⟩
  have HLM := (show Hid (L.length = m) from hm)
  rw [hm]
  clear hc h hi hci hm
  go_enter Tryz.func42, Tryz.ntmps42
  go_upto_region 6 with (first | (go_at_call 41; refine HC.out.mono ?_; rintro e w1 ⟨rfl, hK1⟩; obtain ⟨_, g0, g1, g2, g3, g4⟩ := five_free (heap_alloc_new w1 (.cells #[.int .i64 1, .int .i64 c, .int .i64 l, .bool f, .bool true] 97))))
  have hKa := hK1.trans (Keep.alloc [] w1 (.cells #[.int .i64 1, .int .i64 c, .int .i64 l, .bool f, .bool true] 97))
  generalize w1.alloc (.cells #[.int .i64 1, .int .i64 c, .int .i64 l, .bool f, .bool true] 97) = w2 at *
  generalize w1.heap.size = bx at *
  obtain ⟨g, vc, ao, cp, r0, r1, r2, r3, r4⟩ := (HX.out.keep0 hKa).rclass HI.out
  have HIA := (show Hid (IntsAt w2 ao L) from r3)
  obtain ⟨q, hn⟩ : ∃ q, ds.length = q := ⟨_, rfl⟩
  rw [hn] at hin r0 hl
  rw [HLM.out] at r2
  have hii : (i : Int) < q := by omega
  have hi0 : (0 : Int) ≤ (i : Int) := by omega
  clear r1 r3 r4 hn hK1
  go_quiet (fail)
  have HIB := (show Hid (IntsAt (w2.drewN nq) ao L) from HIA.out.keep (Keep.drewN [] _ _) (fun _ _ _ => by simp))
  go_wp2_with fail
  go_ret
  exact ⟨ao, cp, rfl, HIB.out, hKa.trans (Keep.drewN [] _ _)⟩
set_option maxRecDepth 100000 in
set_option maxHeartbeats 1600000 in
theorem rrefs_all (a c l : Int) (n : Nat) (f : Bool) (w : World) (hn : l = n) (hl : l ≤ 1023) (hc : Calls Tryz.prog 41 #[.pointer (some ⟨hb, 0, none⟩), .int .i64 a] w fun e w' => e = .returned (.agg #[.int .i64 2, .int .i64 c, .int .i64 l, .bool f, .bool true]) ∧ Keep [] w w') :
    Calls Tryz.prog 42 #[.pointer (some ⟨hb, 0, none⟩), .int .i64 a] w fun e w' => ∃ la lc, e = .returned (.slice la n lc) ∧ IntsAt w' la (upL l) ∧ Keep [] w w' := by
  subst hn
  obtain ⟨i0, hi, hz0, hz1, hz2⟩ := info_parts Tryz.infoIntC
  have hI : Hid (Tryz.prog.info? 3 = some i0 ∧ i0.zero = some (.int .i64 0) ∧ i0.size = 1 ∧ i0.bytes = 8) := ⟨hi, hz0, hz1, hz2⟩
  clear hi hz0 hz1 hz2
  have HC := (show Hid (Calls Tryz.prog 41 #[.pointer (some ⟨hb, 0, none⟩), .int .i64 a] w fun e w' => e = .returned (.agg #[.int .i64 2, .int .i64 c, .int .i64 n, .bool f, .bool true]) ∧ Keep [] w w') from hc)
  clear hc
  go_enter Tryz.func42, Tryz.ntmps42
  go_upto_region 8 with (first | (go_at_call 41; refine HC.out.mono ?_; rintro e w1 ⟨rfl, hK1⟩; obtain ⟨_, g0, g1, g2, g3, g4⟩ := five_free (heap_alloc_new w1 (.cells #[.int .i64 2, .int .i64 c, .int .i64 n, .bool f, .bool true] 97))))
  have hKa := hK1.trans (Keep.alloc [] w1 (.cells #[.int .i64 2, .int .i64 c, .int .i64 n, .bool f, .bool true] 97))
  generalize w1.alloc (.cells #[.int .i64 2, .int .i64 c, .int .i64 n, .bool f, .bool true] 97) = w2 at *
  generalize w1.heap.size = bx at *
  clear hK1 g0 g1 g3 g4
  go_wp2_with fail
  go_loopw [6, 7] (fun v i wr => ∃ q : Nat, i = .int .i64 q ∧ q ≤ n ∧ Hid (wr.ownsRow w2.heap.size 3 1 v q (ints (upL (q : Int)))) ∧ Keep [] w2 wr) (fun _ i _ => n - (intOf i).toNat)
  case atStart => exact ⟨0, rfl, by omega, World.ownsRow_nil _ _ _ _, Keep.refl _ _⟩
  case round =>
    rename_i v6 _
    obtain ⟨q, rfl, hq, HO, hK⟩ := hrel
    obtain ⟨w9, rfl⟩ : ∃ w9, w9 = wr := ⟨_, rfl⟩
    have g9 := (hK.cell (lt_of_cell2 g2) (by simp) 2).trans g2
    have hs9 := hK.size
    by_cases hlt : q < n
    · go_wp2_with (first | (at_builtin; refine append_ints rfl (.tmp 39) (.tmp 41) 25 rfl w2.heap.size 3 i0 Tryz.underlying25 hI.out _ q (upL (q : Int)) [(q : Int)] rfl (HO.out.alloc _) (some ⟨w9.heap.size, 0, none⟩) 1 1 rfl rfl (IntsAt.single w9 3 q (by omega) (by omega)) (fun e => by cases e) (by omega) (by simp; omega) ?_; intro v' w5 hown5 hgrow; have HK5 := (show Hid (Keep [] w2 w5) from (hK.trans (Keep.alloc [] _ _)).grown hgrow (own_block HO.out)); have HO5 := (show Hid (w5.ownsRow w2.heap.size 3 1 v' (q + 1) (ints (upL ((q + 1 : Nat) : Int)))) from by show World.ownsRow _ _ _ _ _ _ _; rw [upL_snoc]; exact hown5); clear hown5 hgrow))
      go_roundw
      case rel => exact ⟨q + 1, by go_num, by omega, HO5, HK5.out⟩
      case measure => simp [intOf]; omega
    · obtain rfl : q = n := by omega
      obtain ⟨la, lc, rfl, hL, hI2, _, _⟩ := own_form HO.out (upL_bd _ hl)
      have HII := (show Hid (IntsAt w9 la (upL (q : Int))) from hI2)
      clear hL hI2 HO
      go_wp2_with fail
      go_ret
      exact ⟨la, lc, rfl, HII.out, hKa.trans hK⟩
theorem rrefs (a : Int) (L : List Int) (w : World) (h : Has w0 F0 (rheapA hb ws kd ds) w) (hT : RefsT kd ws ds a L) :
    Calls Tryz.prog 42 #[.pointer (some ⟨hb, 0, none⟩), .int .i64 a] w fun e w' => ∃ la lc, e = .returned (.slice la L.length lc) ∧ IntsAt w' la L ∧ Keep [] w w' := by
  have hf := h.rfine
  obtain ⟨mb, hr⟩ := h.rraw
  cases hT with
  | none hn =>
    refine (rrefs_other a _ _ _ _ _ w (.inl rfl) (rhead a _ _ _ _ _ w h (.no hn))).mono ?_
    rintro e w' ⟨rfl, hK⟩
    exact ⟨none, 0, rfl, IntsAt.nil _ _, hK⟩
  | data b m c l f hA =>
    refine (rrefs_other a _ _ _ _ _ w (.inr (by omega)) (rhead a _ _ _ _ _ w h (.yes b m 3 c l f hA))).mono ?_
    rintro e w' ⟨rfl, hK⟩
    exact ⟨none, 0, rfl, IntsAt.nil _ _, hK⟩
  | ref b m c l f hA =>
    refine (rrefs_ref a _ _ _ w (rhead a _ _ _ _ _ w h (.yes b m 4 c l f hA))).mono ?_
    rintro e w' ⟨z, rfl, hR, hz, hK⟩
    exact ⟨_, 1, rfl, hR.ints two_bd, hK⟩
  | refs b m c l f hA =>
    have hbd := hA.2.2.bd
    obtain ⟨q, hq⟩ := Int.eq_ofNat_of_zero_le hbd.2.2.2.2.1
    refine (rrefs_all a _ l q _ w hq (by omega) (rhead a _ _ _ _ _ w h (.yes b m 2 c l f hA))).mono ?_
    rintro e w' ⟨la, lc, rfl, hR, hK⟩
    exact ⟨_, lc, by rw [upL_length, hq]; rfl, hR, hK⟩
  | plain b m i c l f L hA hci hi => exact rrefs_plain i a c l l f L w hr hci hi hf.few (rhead a _ _ _ _ _ w h (.yes b m 1 c l f hA))
end

set_option maxRecDepth 100000 in
set_option maxHeartbeats 1600000 in
theorem rnewheap {w0 w : World} {F0 : List Nat} {A : Asn} (n : Nat) (h : Has w0 F0 A w) (h1 : 1 ≤ n) (h2 : n ≤ 256) :
    Calls Tryz.prog 28 #[.int .i64 n] w fun e w' => ∃ mb, e = .returned (.pointer (some ⟨mb, 0, none⟩)) ∧ Has w0 F0 (A.star (rheapA mb (zeros (64 * n)) (freshK n) [])) w' := by
  have HA := (show Hid (Has w0 F0 A w) from h)
  clear h
  go_enter Tryz.func28, Tryz.ntmps28
  go_wp2_with (first | (go_at_call 59; refine (rnews_ok n _ h1 h2).mono ?_; rintro e w1 ⟨mb, G, rfl, hR, hK, hG⟩; have HR := (show Hid (IsRef w1 mb G (zeros (64 * n)) (freshK n) ∧ Keep [] w w1 ∧ ∀ k, k ∈ G → w.heap.size ≤ k) from ⟨hR, hK, hG⟩); clear hR hK hG))
  go_ret
  obtain ⟨hR, hK, hG⟩ := HR.out
  have hK2 := Keep.alloc [] w1 (.cells #[.pointer (some ⟨mb, 0, none⟩), .slice none 0 0] 90)
  have hs := hK.size
  refine ⟨_, rfl, HA.out.more (B := rheapA w1.heap.size (zeros (64 * n)) (freshK n) []) (G := w1.heap.size :: G) (hK.trans hK2) ⟨⟨mb, [w1.heap.size], G, fun k => by simp, ⟨none, 0, [], ⟨heap_alloc_new w1 _, World.ownsRow_nil _ _ _ _, (fun a e => by cases e), (by simp), (fun i c h => by simp at h), fun k hk => by simp at hk; simp [hk]⟩, rfl⟩, hR.keep hK2 (by simp), fun k e e' => ?_⟩, Fine.fresh n h1 h2⟩ ?_⟩
  · simp at e
    have := hR.lt k e'
    omega
  · intro k hk
    simp at hk
    rcases hk with rfl | hk
    · omega
    · exact hG k hk

end Go.Proofs.YtgpidokklhjfdaaGreat

/-
  Two lists of integers that a call grows by turns, each in memory of its own.
-/
namespace Go.Proofs.YtgpidokklhjfdaaGreat
open Go.RowKit

theorem snoc_old (L : List Int) (x : Int) (t : Nat) (h : t < L.length) : (L ++ [x])[t]?.getD 0 = L[t]?.getD 0 := by rw [List.getElem?_append_left h]
theorem snoc_new (L : List Int) (x : Int) (t : Nat) (h : t = L.length) : (L ++ [x])[t]?.getD 0 = x := by subst h; simp
theorem own_keep {S : List Nat} {w w' : World} {base : Nat} {e : TypeId} {size : Nat} {v : Value} {n : Nat} {xs : List Value} (h : w.ownsRow base e size v n xs) (k : Keep S w w') (hS : ∀ x, x ∈ S → x < base) : w'.ownsRow base e size v n xs := by
  refine ⟨h.1, ?_⟩
  rcases h.2 with h | ⟨g, cap, cur, h1, h2, h3, h4⟩
  · exact .inl h
  · exact .inr ⟨g, cap, cur, h1, h2, k.blk h3 (fun e => by have := hS g e; omega), h4⟩
/-- Two slices lie in two blocks. -/
def Apart (la ls : Option Addr) : Prop := ∀ x y, la = some x → ls = some y → x.block ≠ y.block
theorem Apart.kept {la ls : Option Addr} (h : Apart la ls) (q c q' c' : Nat) : (Value.slice ls q c).ownBlock = none ∨ (Value.slice ls q c).ownBlock ≠ (Value.slice la q' c').ownBlock := by
  cases ls with
  | none => exact .inl rfl
  | some y =>
    cases la with
    | none => exact .inr (by simp [Value.ownBlock])
    | some x => exact .inr (by have := h x y rfl rfl; simp [Value.ownBlock]; omega)
theorem Apart.symm {la ls : Option Addr} (h : Apart la ls) : Apart ls la := fun x y hx hy e => h y x hy hx e.symm
theorem Apart.grown {la ls : Option Addr} {g q c H : Nat} (h : Apart la ls) (hg : (Value.slice la q c).ownBlock = some g ∨ g = H) (hl : ∀ y, ls = some y → y.block < H) : Apart (some ⟨g, 0, none⟩) ls := by
  intro x y hx hy e
  cases hx
  simp only at e
  rcases hg with hg | hg
  · cases la with
    | none => simp [Value.ownBlock] at hg
    | some z => simp [Value.ownBlock] at hg; exact h z y rfl hy (by omega)
  · have := hl y hy; omega
theorem own_at {w : World} {base : Nat} {e : TypeId} {la : Option Addr} {q c : Nat} {L : List Int} (h : w.ownsRow base e 1 (.slice la q c) q (ints L)) (hb : ∀ i : Nat, -9223372036854775808 ≤ L[i]?.getD 0 ∧ L[i]?.getD 0 ≤ 9223372036854775807) :
    IntsAt w la L ∧ L.length = q ∧ (∀ y, la = some y → base ≤ y.block ∧ y.block < w.heap.size) := by
  have hn : L.length = q := by have := h.1; rw [ints_length, Nat.mul_one] at this; exact this
  rcases own_ints h hb with ⟨h1, h2, _⟩ | ⟨g, cap, h1, _, h3, h4, h5⟩
  · cases h1; subst h2; exact ⟨IntsAt.nil _ _, hn, fun y hy => by cases hy⟩
  · cases h1; exact ⟨h5, hn, fun y hy => by cases hy; exact ⟨h3, h4⟩⟩
theorem grown_keep {w w' : World} {la : Option Addr} {q c : Nat} (hg : w.grownBy w' (Value.slice la q c).ownBlock) : Keep (la.toList.map (·.block)) w w' := by
  refine ⟨hg.os, hg.tape, hg.output, hg.size, fun k hk hS => hg.block k hk (fun e => hS ?_)⟩
  cases la with
  | none => simp [Value.ownBlock] at e
  | some x => simp [Value.ownBlock] at e; simp [e]
theorem blocks_ge {la : Option Addr} {base m : Nat} (h : ∀ y, la = some y → base ≤ y.block ∧ y.block < m) : ∀ x, x ∈ la.toList.map (·.block) → base ≤ x := by
  intro x hx
  cases la with
  | none => simp at hx
  | some y => simp at hx; subst hx; exact (h y rfl).1

theorem own_keepS {S : List Nat} {w w' : World} {base : Nat} {e : TypeId} {size : Nat} {la : Option Addr} {q c n : Nat} {xs : List Value} (h : w.ownsRow base e size (.slice la q c) n xs) (k : Keep S w w') (hS : ∀ y, la = some y → y.block ∉ S) : w'.ownsRow base e size (.slice la q c) n xs := by
  refine ⟨h.1, ?_⟩
  rcases h.2 with h | ⟨g, cap, cur, h1, h2, h3, h4⟩
  · exact .inl h
  · refine .inr ⟨g, cap, cur, h1, h2, k.blk h3 ?_, h4⟩
    cases h1
    exact hS _ rfl

end Go.Proofs.YtgpidokklhjfdaaGreat

/-
  A list of integers that nothing turns, as a part of memory beside others.
-/
namespace Go.Proofs.YtgpidokklhjfdaaGreat
open Go.RowKit

def listA (la : Option Addr) (L : List Int) : Asn where
  at' w F := F = la.toList.map (·.block) ∧ IntsAt w la L ∧ ∀ a, la = some a → a.block < w.heap.size
  keep := fun h K hS => ⟨h.1, h.2.1.keep K (fun _ a e => hS _ (by rw [h.1, e]; simp)), fun a e => Nat.lt_of_lt_of_le (h.2.2 a e) K.size⟩
  lt := fun h k hk => by
    rw [h.1] at hk
    simp at hk
    obtain ⟨a, e, rfl⟩ := hk
    exact h.2.2 a e
theorem Has.list {w0 w : World} {F0 : List Nat} {la : Option Addr} {L : List Int} (h : Has w0 F0 (listA la L) w) : IntsAt w la L := h.fact (fun _ h => h.2.1)
/-- A list that was made since w beside what there is. -/
theorem Has.listed {w0 w w' : World} {F0 : List Nat} {A : Asn} {v : Value} {n : Nat} {L : List Int} {t : TypeId} (h : Has w0 F0 A w) (K : Keep [] w w') (ho : w'.ownsRow w.heap.size t 1 v n (ints L)) (hb : ∀ i : Nat, -9223372036854775808 ≤ L[i]?.getD 0 ∧ L[i]?.getD 0 ≤ 9223372036854775807) :
    ∃ la lc, v = .slice la L.length lc ∧ (la = none → lc = 0) ∧ Has w0 F0 (A.star (listA la L)) w' := by
  rcases own_ints ho hb with ⟨rfl, rfl, _⟩ | ⟨g, cap, rfl, _, h2, h3, h4⟩
  · exact ⟨none, 0, rfl, fun _ => rfl, h.more K (G := []) ⟨rfl, IntsAt.nil _ _, by simp⟩ (by simp)⟩
  · exact ⟨some ⟨g, 0, none⟩, cap, rfl, by simp, h.more K (G := [g]) ⟨rfl, h4, fun a e => by cases e; exact h3⟩ (by simpa using h2)⟩

end Go.Proofs.YtgpidokklhjfdaaGreat

/-
  A row of one's own that append made: its first cells, and the same when one of them is set. It speaks of no program.
-/
namespace Go.Proofs.YtgpidokklhjfdaaGreat
open Go.RowKit

/-- Block g begins with these integers. -/
def PRow (w : World) (t : TypeId) (g : Nat) (L : List Int) : Prop := ∃ cur : Array Value, w.heap[g]? = some (.cells cur t (0, 0)) ∧ ∀ i : Nat, i < L.length → cur[i]? = some (.int .i64 (L[i]?.getD 0))
theorem PRow.lt {w : World} {t : TypeId} {g : Nat} {L : List Int} (h : PRow w t g L) : g < w.heap.size := by obtain ⟨cur, h, _⟩ := h; exact lt_of_block h
theorem PRow.keep {S : List Nat} {w w' : World} {t : TypeId} {g : Nat} {L : List Int} (h : PRow w t g L) (k : Keep S w w') (hS : g ∉ S) : PRow w' t g L := by obtain ⟨cur, h1, h2⟩ := h; exact ⟨cur, k.blk h1 hS, h2⟩
theorem PRow.cell {w : World} {t : TypeId} {g : Nat} {L : List Int} (h : PRow w t g L) {i : Nat} (hi : i < L.length) : w.cell? ⟨g, i, none⟩ = some (.int .i64 (L[i]?.getD 0)) := by
  obtain ⟨cur, h1, h2⟩ := h
  simp [World.cell?, h1, h2 i hi]
theorem PRow.free {w : World} {t : TypeId} {g : Nat} {L : List Int} (h : PRow w t g L) (i : Nat) : w.frozen? ⟨g, i, none⟩ = false := by
  obtain ⟨cur, h1, _⟩ := h
  simp [World.frozen?, h1]
theorem PRow.put {w : World} {t : TypeId} {g : Nat} {L : List Int} (h : PRow w t g L) (i : Nat) (x : Int) : PRow (w.setCell ⟨g, i, none⟩ (.int .i64 x)) t g (L.set i x) := by
  obtain ⟨cur, h1, h2⟩ := h
  refine ⟨_, heap_setCell_same w g i cur t (.int .i64 x) h1, fun j hj => ?_⟩
  rw [List.length_set] at hj
  have h3 := h2 j hj
  have hc : j < cur.size := by
    rcases Nat.lt_or_ge j cur.size with e | e
    · exact e
    · rw [Array.getElem?_eq_none e] at h3; cases h3
  by_cases e : i = j
  · subst e; rw [set_get_same _ _ _ hj, Array.getElem?_setIfInBounds_self_of_lt hc]
  · rw [set_get_other _ _ _ _ e, Array.getElem?_setIfInBounds_ne e]; exact h3
theorem own_prow {w : World} {base : Nat} {e : TypeId} {v : Value} {n : Nat} {L : List Int} (h : w.ownsRow base e 1 v n (ints L)) (h0 : 0 < n) :
    ∃ g cap, v = .slice (some ⟨g, 0, none⟩) n cap ∧ L.length = n ∧ base ≤ g ∧ PRow w e g L := by
  have hn : n = L.length := by have := h.1; rw [ints_length, Nat.mul_one] at this; exact this.symm
  rcases h.2 with ⟨_, h1⟩ | ⟨g, cap, cur, h1, hb, hg, hc1, _, hsz, hcur⟩
  · omega
  · refine ⟨g, cap, h1, hn.symm, hb, cur, hg, fun i hi => ?_⟩
    rw [Nat.mul_one] at hcur
    have h3 : cur.toList[i]? = some (.int .i64 (L[i]?.getD 0)) := by
      have h2 := ints_get L i hi
      rw [← hcur, List.getElem?_take, if_pos (by omega)] at h2
      exact h2
    simpa using h3
/-- What an append turns. -/
theorem Keep.ofGrown {w w' : World} {row : Option Nat} (h : w.grownBy w' row) : Keep row.toList w w' :=
  ⟨h.os, h.tape, h.output, h.size, fun k hk hS => h.block k hk (fun e => hS (by rw [← e]; simp))⟩
theorem Keep.grownS {S : List Nat} {w1 w w' : World} {row : Option Nat} (h : Keep S w1 w) (hg : w.grownBy w' row) (hrow : ∀ k, row = some k → w1.heap.size ≤ k) : Keep S w1 w' :=
  ⟨hg.os.trans h.os, hg.tape.trans h.tape, hg.output.trans h.output, Nat.le_trans h.size hg.size, fun k hk hS =>
    (hg.block k (Nat.lt_of_lt_of_le hk h.size) (fun e => by have := hrow k e.symm; omega)).trans (h.block k hk hS)⟩

end Go.Proofs.YtgpidokklhjfdaaGreat

/-
  A list of integers that begins at some place of a row of one's own, and has room behind it; what append leaves of it; parts of memory in a row. It speaks of no program.
-/
namespace Go.Proofs.YtgpidokklhjfdaaGreat
open Go.RowKit

/-- v is a list that is one's own: it holds L, and what lies behind it up to its capacity is free. -/
def IsMid (w : World) (t : TypeId) (v : Value) (L : List Int) : Prop :=
  (v = .slice none 0 0 ∧ L = []) ∨ ∃ g o cap cur, v = .slice (some ⟨g, o, none⟩) L.length cap ∧ w.heap[g]? = some (.cells cur t (0, 0)) ∧ L.length ≤ cap ∧ cap ≤ maxLen ∧ o + cap ≤ cur.size ∧ ∀ i, i < L.length → cur[o + i]? = some (.int .i64 (L[i]?.getD 0))
def inR (L : List Int) : Prop := ∀ i : Nat, -9223372036854775808 ≤ L[i]?.getD 0 ∧ L[i]?.getD 0 ≤ 9223372036854775807

theorem IsMid.keep {S : List Nat} {w w' : World} {t : TypeId} {v : Value} {L : List Int} (h : IsMid w t v L) (K : Keep S w w') (hS : ∀ k, v.ownBlock = some k → k ∉ S) : IsMid w' t v L := by
  rcases h with h | ⟨g, o, cap, cur, h1, h2, h3⟩
  · exact .inl h
  · subst h1; exact .inr ⟨g, o, cap, cur, rfl, K.blk h2 (hS g rfl), h3⟩
theorem IsMid.lt {w : World} {t : TypeId} {v : Value} {L : List Int} (h : IsMid w t v L) : ∀ k, v.ownBlock = some k → k < w.heap.size := by
  intro k hk
  rcases h with ⟨h, _⟩ | ⟨g, o, cap, cur, h1, h2, _⟩
  · subst h; cases hk
  · subst h1; cases hk; exact lt_of_block h2
theorem IsMid.ints {w : World} {t : TypeId} {la : Option Addr} {n c : Nat} {L : List Int} (h : IsMid w t (.slice la n c) L) (hb : inR L) : IntsAt w la L ∧ L.length = n ∧ (la = none → c = 0) ∧ n ≤ c := by
  rcases h with ⟨h, rfl⟩ | ⟨g, o, cap, cur, h1, h2, h3, h4, h5, h6⟩
  · cases h; exact ⟨IntsAt.nil _ _, rfl, fun _ => rfl, Nat.le_refl _⟩
  · cases h1
    refine ⟨⟨fun _ => ⟨g, o, rfl, lt_of_block h2, fun i hi => ?_⟩, fun i => (hb i).1, fun i => (hb i).2⟩, rfl, (fun e => by cases e), h3⟩
    simp [World.cell?, h2, h6 i hi]
theorem IsMid.form {w : World} {t : TypeId} {v : Value} {L : List Int} (h : IsMid w t v L) : ∃ la c, v = .slice la L.length c := by
  rcases h with ⟨rfl, rfl⟩ | ⟨g, o, cap, cur, h1, _⟩
  · exact ⟨none, 0, rfl⟩
  · exact ⟨_, _, h1⟩
theorem IsMid.nil (w : World) (t : TypeId) : IsMid w t (.slice none 0 0) [] := .inl ⟨rfl, rfl⟩
/-- A row that append made. -/
theorem own_mid {w : World} {base : Nat} {t : TypeId} {v : Value} {n : Nat} {L : List Int} (h : w.ownsRow base t 1 v n (ints L)) : IsMid w t v L := by
  have hn : n = L.length := by have := h.1; rw [ints_length, Nat.mul_one] at this; exact this.symm
  rcases h.2 with ⟨h1, h2⟩ | ⟨g, cap, cur, h1, _, h3, h4, h5, h6, h7⟩
  · exact .inl ⟨h1, List.length_eq_zero_iff.1 (by omega)⟩
  · refine .inr ⟨g, 0, cap, cur, by rw [h1, hn], h3, by omega, h5, by omega, fun i hi => ?_⟩
    have e := ints_get L i hi
    rw [← h7, List.getElem?_take, if_pos (by omega)] at e
    rw [Nat.zero_add]
    simpa using e
/-- The first one goes. -/
theorem IsMid.tail {w : World} {t : TypeId} {g o cap : Nat} {x : Int} {L : List Int} (h : IsMid w t (.slice (some ⟨g, o, none⟩) (L.length + 1) cap) (x :: L)) :
    IsMid w t (.slice (if cap = 1 then some ⟨g, o, none⟩ else some ⟨g, o + 1, none⟩) L.length (cap - 1)) L := by
  rcases h with ⟨h, _⟩ | ⟨g', o', cap', cur, h1, h2, h3, h4, h5, h6⟩
  · cases h
  · cases h1
    rw [List.length_cons] at h3 h6
    by_cases e : cap = 1
    · rw [if_pos e]
      exact .inr ⟨g, o, cap - 1, cur, rfl, h2, by omega, by omega, by omega, fun i hi => by omega⟩
    · rw [if_neg e]
      refine .inr ⟨g, o + 1, cap - 1, cur, rfl, h2, by omega, by omega, by omega, fun i hi => ?_⟩
      have := h6 (i + 1) (by omega)
      rw [show o + 1 + i = o + (i + 1) by omega, this]; simp

theorem lt_of_cell2' {w : World} {b o : Nat} {v : Value} (h : w.cell? ⟨b, o, none⟩ = some v) : b < w.heap.size := by
  rcases Nat.lt_or_ge b w.heap.size with h' | h'
  · exact h'
  · simp [World.cell?, Array.getElem?_eq_none h'] at h
theorem snoc_get (L : List Int) (y : Int) (i : Nat) (h : i < L.length) : (L ++ [y])[i]?.getD 0 = L[i]?.getD 0 := by rw [List.getElem?_append_left h]
/-- What append of one integer comes to. -/
theorem run_append_mid {P : Program} (w : World) (t ty e : TypeId) (i : TypeInfo) (ht : P.underlying t = some (.slice e)) (hi : P.info? e = some i ∧ i.zero = some (.int .i64 0) ∧ i.size = 1 ∧ i.bytes = 8)
    (v : Value) (L : List Int) (hv : IsMid w e v L) (ad : Addr) (y : Int) (c : Nat) (hy : w.cell? ad = some (.int .i64 y)) (ha : ad.add 0 = ad) (hl : L.length ≤ 1000000) :
    ∃ v' w', (Builtin.append_ #[t, t] ty #[v, .slice (some ad) 1 c]).run P w = .ok v' w' ∧ IsMid w' e v' (L ++ [y]) ∧ Keep v.ownBlock.toList w w' ∧ ∀ k, v'.ownBlock = some k → v.ownBlock = some k ∨ w.heap.size ≤ k := by
  obtain ⟨h1, h2, h3, h4⟩ := hi
  have hnews : ∀ j u, (ints [y])[j]? = some u → w.cell? (ad.add j) = some u := by
    intro j u hu
    rcases j with _ | j
    · rw [ha, hy]; simpa [ints] using hu
    · simp [ints] at hu
  rcases hv with ⟨rfl, rfl⟩ | ⟨g, o, cap, cur, rfl, hg, hlc, hcm, hsz, hcur⟩
  · obtain ⟨v', w', hrun, hown, hgr, _⟩ := run_append_own (P := P) w w.heap.size t ty e i (.int .i64 0) 1 8 ht h1 h2 h3 h4 rfl (by decide) (.slice none 0 0) 0 [] (World.ownsRow_nil w _ e 1) ad 1 c (ints [y]) (by simp [ints]) hnews (ints_one _) (by unfold maxLen; omega) (by omega) (Nat.le_refl _)
    rw [show ([] : List Value) ++ ints [y] = ints ([] ++ [y]) from rfl] at hown
    refine ⟨v', w', hrun, own_mid hown, Keep.ofGrown hgr, fun k hk => .inr (own_block hown k hk)⟩
  · by_cases hroom : L.length + 1 ≤ cap
    · have hcell : o + L.length < cur.size := by omega
      refine ⟨_, _, run_append_room_cells (P := P) w t ty e i ht h1 g o L.length cap ad 1 c (ints [y]) (by rw [h3]; simp [ints]) hnews (ints_one _) hroom ?_ ?_, ?_, ?_, ?_⟩
      · intro j hj
        obtain rfl : j = 0 := by simpa [ints] using hj
        rw [h3]
        simp [World.cell?, hg, hcell]
      · intro j hj
        simp [World.frozen?, hg]
      · have hset := heap_setCell_same w g (o + L.length) cur e (.int .i64 y) hg
        refine .inr ⟨g, o, cap, cur.setIfInBounds (o + L.length) (.int .i64 y), by simp, ?_, by simpa using hroom, hcm, by simpa using hsz, fun j hj => ?_⟩
        · rw [h3, Nat.mul_one]; simpa [World.setCells, ints] using hset
        · rw [List.length_append, List.length_singleton] at hj
          by_cases e : j = L.length
          · subst e
            rw [Array.getElem?_setIfInBounds_self_of_lt hcell]; simp
          · rw [Array.getElem?_setIfInBounds_ne (by omega), snoc_get L y j (by omega)]
            exact hcur j (by omega)
      · rw [h3, Nat.mul_one]
        have := Keep.setCell (S := [g]) w (a := ⟨g, o + L.length, none⟩) (.int .i64 y) (by simp)
        simpa [World.setCells, ints, Value.ownBlock] using this
      · intro k hk; exact .inl (by simpa [Value.ownBlock] using hk)
    · obtain ⟨v', w', hrun, hown, hgr⟩ := run_append_arg_grows (P := P) w t ty e i (.int .i64 0) 1 8 ht h1 h2 h3 h4 rfl (by decide) ⟨g, o, none⟩ L.length cap (ints L) (by rw [ints_length, Nat.mul_one]) (by
        intro j u hu
        have hj : j < L.length := by
          rcases Nat.lt_or_ge j L.length with hj | hj
          · exact hj
          · rw [List.getElem?_eq_none (by rw [ints_length]; exact hj)] at hu; cases hu
        rw [ints_get L j hj] at hu
        rw [Addr.add_lit]
        simp [World.cell?, hg, hcur j hj]
        exact Option.some.inj hu) ad 1 c (ints [y]) (by simp [ints]) hnews (by omega) (by unfold maxLen; omega) (by omega)
      rw [ints_app] at hown
      refine ⟨v', w', hrun, own_mid hown, (Keep.ofGrown hgr).mono (by simp), fun k hk => .inr (own_block hown k hk)⟩

/-- For the walk. -/
theorem wpList_append_mid {P : Program} (w : World) {ops : Array Oper} {rest : List Oper} {o : Oper} {a : Act} {Q : Exit → Act → World → Prop} (hgd : o.guard = none) (s x : Operand) (t : TypeId)
    (ho : o.op = .call { callee := .builtin .append, args := #[s, x], argTypes := #[t, t] }) (e : TypeId) (i : TypeInfo) (ht : P.underlying t = some (.slice e)) (hi : P.info? e = some i ∧ i.zero = some (.int .i64 0) ∧ i.size = 1 ∧ i.bytes = 8)
    (v : Value) (L : List Int) (hs : a.eval s = v) (hv : IsMid w e v L) (b : Nat) (y : Int) (c : Nat) (hx : a.eval x = .slice (some ⟨b, 0, none⟩) 1 c) (hy : w.cell? ⟨b, 0, none⟩ = some (.int .i64 y)) (hl : L.length ≤ 1000000)
    (h : ∀ v' w', IsMid w' e v' (L ++ [y]) → Keep v.ownBlock.toList w w' → (∀ k, v'.ownBlock = some k → v.ownBlock = some k ∨ w.heap.size ≤ k) → wpList P ops Q rest (a.put o.dst v') w') : wpList P ops Q (o :: rest) a w := by
  refine wpList_plain hgd fun K hK' => ?_
  obtain ⟨v', w', hrun, r1, r2, r3⟩ := run_append_mid (P := P) w t o.type e i ht hi v L hv ⟨b, 0, none⟩ y c hy (by simp [Addr.add]) hl
  unfold Oper.wp
  simp [execOp, ho, resolve, invoke, builtin, hs, hx, hrun, Result.andThen]
  exact hK' _ _ (h v' w' r1 r2 r3)
/-- At a step of a region that draws. -/
theorem step_append_mid {P : Program} (w : World) {ops : Array Oper} {o : Oper} {a : Act} {K : Act → World → Prop} {Q : Exit → Act → World → Prop} {E : Prop} (hgd : o.guard = none) (s x : Operand) (t : TypeId)
    (ho : o.op = .call { callee := .builtin .append, args := #[s, x], argTypes := #[t, t] }) (e : TypeId) (i : TypeInfo) (ht : P.underlying t = some (.slice e)) (hi : P.info? e = some i ∧ i.zero = some (.int .i64 0) ∧ i.size = 1 ∧ i.bytes = 8)
    (v : Value) (L : List Int) (hs : a.eval s = v) (hv : IsMid w e v L) (b : Nat) (y : Int) (c : Nat) (hx : a.eval x = .slice (some ⟨b, 0, none⟩) 1 c) (hy : w.cell? ⟨b, 0, none⟩ = some (.int .i64 y)) (hl : L.length ≤ 1000000)
    (h : ∀ v' w', IsMid w' e v' (L ++ [y]) → Keep v.ownBlock.toList w w' → (∀ k, v'.ownBlock = some k → v.ownBlock = some k ∨ w.heap.size ≤ k) → K (a.put o.dst v') w') :
    if Region.wanted o (yielded ops a.tmps) = true then Oper.wp P o a w K Q else E := by
  have hw : Region.wanted o (yielded ops a.tmps) = true := by simp [Region.wanted, hgd]
  rw [if_pos hw]
  obtain ⟨v', w', hrun, r1, r2, r3⟩ := run_append_mid (P := P) w t o.type e i ht hi v L hv ⟨b, 0, none⟩ y c hy (by simp [Addr.add]) hl
  unfold Oper.wp
  simp [execOp, ho, resolve, invoke, builtin, hs, hx, hrun, Result.andThen]
  exact h v' w' r1 r2 r3

/-! ### As parts of memory -/
def midA (t : TypeId) (v : Value) (L : List Int) : Asn where
  at' w F := F = v.ownBlock.toList ∧ IsMid w t v L
  keep := fun h K hS => ⟨h.1, h.2.keep K (fun k e => hS k (by rw [h.1, e]; simp))⟩
  lt := fun h k hk => by
    rw [h.1] at hk
    exact h.2.lt k (by simpa using hk)
/-- A row of values of one cell each, of one's own. -/
def vecA (t : TypeId) (va : Option Addr) (vc : Nat) (vs : List Value) : Asn where
  at' w F := F = va.toList.map (·.block) ∧ w.ownsRow 0 t 1 (.slice va vs.length vc) vs.length vs ∧ ∀ a, va = some a → a.block < w.heap.size
  keep := fun h K hS => ⟨h.1, own_keepS h.2.1 K (fun y e => hS _ (by rw [h.1, e]; simp)), fun a e => Nat.lt_of_lt_of_le (h.2.2 a e) K.size⟩
  lt := fun h k hk => by
    rw [h.1] at hk
    simp at hk
    obtain ⟨a, e, rfl⟩ := hk
    exact h.2.2 a e
def emptyA : Asn where
  at' _ F := F = []
  keep := fun h _ _ => h
  lt := fun h k hk => by rw [h] at hk; cases hk
/-- A part one of whose cells is known. -/
def Asn.pin (A : Asn) (b j : Nat) (v : Value) : Asn where
  at' w F := A.at' w F ∧ b ∈ F ∧ w.cell? ⟨b, j, none⟩ = some v
  keep := fun h K hS => ⟨A.keep h.1 K hS, h.2.1, (K.cell (A.lt h.1 _ h.2.1) (hS _ h.2.1) _).trans h.2.2⟩
  lt := fun h => A.lt h.1
/-- Parts in a row, no two of which share a block. -/
def rowA : List Asn → Asn
  | [] => emptyA
  | A :: l => A.star (rowA l)
theorem star_mono {A B B' : Asn} {w : World} {F : List Nat} (g : ∀ F, B.at' w F → B'.at' w F) (h : (A.star B).at' w F) : (A.star B').at' w F := by
  obtain ⟨F1, F2, hF, h1, h2, hd⟩ := h
  exact ⟨F1, F2, hF, h1, g F2 h2, hd⟩
theorem rowA_get {w : World} {A : Asn} : ∀ (l : List Asn) (i : Nat) (F : List Nat), l[i]? = some A → (rowA l).at' w F → (A.star (rowA (l.eraseIdx i))).at' w F
  | [], i, F, e, _ => by simp at e
  | B :: l, 0, F, e, h => by
    simp at e
    subst e
    exact h
  | B :: l, i + 1, F, e, h => by
    have h1 : (B.star (A.star (rowA (l.eraseIdx i)))).at' w F := star_mono (fun F g => rowA_get l i F (by simpa using e) g) h
    have h2 := star_assoc' h1
    have h3 : ((A.star B).star (rowA (l.eraseIdx i))).at' w F := star_comm (star_mono (fun F g => star_comm g) (star_comm h2))
    exact star_assoc h3
theorem rowA_put {w : World} {A : Asn} : ∀ (l : List Asn) (i : Nat) (F : List Nat), i < l.length → (A.star (rowA (l.eraseIdx i))).at' w F → (rowA (l.set i A)).at' w F
  | [], i, F, e, _ => by simp at e
  | B :: l, 0, F, e, h => h
  | B :: l, i + 1, F, e, h => by
    have h0 : (A.star (B.star (rowA (l.eraseIdx i)))).at' w F := h
    have h1 := star_assoc' h0
    have h2 : ((B.star A).star (rowA (l.eraseIdx i))).at' w F := star_comm (star_mono (fun F g => star_comm g) (star_comm h1))
    exact star_mono (fun F g => rowA_put l i F (by simpa using e) g) (star_assoc h2)
theorem rowA_snoc {w : World} {A : Asn} : ∀ (l : List Asn) (F : List Nat), ((rowA l).star A).at' w F → (rowA (l ++ [A])).at' w F
  | [], F, h => by
    obtain ⟨F1, F2, hF, h1, h2, hd⟩ := h
    exact ⟨F2, F1, fun k => (hF k).trans Or.comm, h2, h1, fun k e e' => hd k e' e⟩
  | B :: l, F, h => star_mono (fun F g => rowA_snoc l F g) (star_assoc h)
/-- One of them is turned. -/
theorem Has.inRow {w0 w w' : World} {F0 : List Nat} {l : List Asn} {i : Nat} {A A' : Asn} (h : Has w0 F0 (rowA l) w) (e : l[i]? = some A) (g : ∀ F, A.at' w F → Has w F A' w') : Has w0 F0 (rowA (l.set i A')) w' := by
  have hi : i < l.length := by
    rcases Nat.lt_or_ge i l.length with hi | hi
    · exact hi
    · rw [List.getElem?_eq_none hi] at e; cases e
  exact (Has.left (h.map (fun F h => rowA_get l i F e h)) g).map (fun F h => rowA_put l i F hi h)

end Go.Proofs.YtgpidokklhjfdaaGreat
