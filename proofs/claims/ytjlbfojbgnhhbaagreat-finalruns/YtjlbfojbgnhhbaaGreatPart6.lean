/-
  Contracts of what the statement calls, one text behind the other (RHeapMake, RHeapMk, ObjNew, ObjList, RHeapFin, RHeapRefs, Same, Awake7, ObjAll, ObjRoom).
-/
import Derived.Test.YtjlbfojbgnhhbaaGreatPart5
import Derived.Deep.CutRange
import Derived.Test.YtjlbfojbgnhhbaaGreatRows
import Derived.Test.YtjlbfojbgnhhbaaGreatPart1
import Derived.Test.YtjlbfojbgnhhbaaGreatPart3
import Derived.Deep.AppendLies

/-
  The document's own heap: May, Make.
-/
namespace Go.Proofs.YtjlbfojbgnhhbaaGreat
open Go.RowKit

/-- A block beside something is written. -/
theorem Has.block {w0 w w' : World} {F0 : List Nat} {A : Asn} {b : Nat} {o o' : Obj} (h : Has w0 F0 (A.star (blockA b o)) w) (K : Keep [b] w w') (ho : w'.heap[b]? = some o') : Has w0 F0 (A.star (blockA b o')) w' :=
  (Has.left h.comm (A' := blockA b o') (fun F e => ⟨[b], ⟨rfl, ho⟩, by rw [e.1]; exact K, fun k hk => by rw [e.1]; exact .inl hk⟩)).comm
theorem Has.blk {w0 w : World} {F0 : List Nat} {A : Asn} {b : Nat} {o : Obj} (h : Has w0 F0 (A.star (blockA b o)) w) : w.heap[b]? = some o := h.snd.fact (fun _ h => h.2)
theorem Has.moreBlock {w0 w : World} {F0 : List Nat} {A : Asn} (h : Has w0 F0 A w) (o : Obj) : Has w0 F0 (A.star (blockA w.heap.size o)) (w.alloc o) :=
  h.more (Keep.alloc [] w o) ⟨rfl, heap_alloc_new w o⟩ (fun k hk => by simp at hk; omega)
theorem Has.rapart {w0 w : World} {F0 : List Nat} {hb mb b gw n : Nat} {ws : List Int} {kd : List PK} {ds : List (Int × List Int)} {o : Obj} (h : Has w0 F0 ((rrawA hb mb ws kd ds).star (blockA b o)) w) (hc : w.cell? ⟨mb, 0, none⟩ = some (.slice (some ⟨gw, 0, none⟩) n n)) : gw ≠ b ∧ mb ≠ b ∧ hb ≠ b := by
  refine h.fact (fun F h => ?_)
  obtain ⟨F1, F2, _, ⟨F3, F4, hF, h1, ⟨L, h2⟩, _⟩, ⟨rfl, _⟩, hd⟩ := h
  obtain ⟨f0, f1, _⟩ := h2.f
  have e := h2.c0
  rw [hc] at e
  have e2 : gw = L.gw := by injection e with e; injection e with e; injection e with e; injection e
  subst e2
  refine ⟨fun e => ?_, fun e => ?_, fun e => ?_⟩
  · exact hd L.gw ((hF _).2 (.inr f1)) (by simp [e])
  · exact hd mb ((hF _).2 (.inr f0)) (by simp [e])
  · exact hd hb ((hF _).2 (.inl h1.mem)) (by simp [e])

section
variable {w0 : World} {F0 : List Nat} {hb : Nat} {ws : List Int} {kd : List PK} {ds : List (Int × List Int)}
set_option maxRecDepth 100000 in
set_option maxHeartbeats 1600000 in
theorem rmay9_arg (k c l : Int) (f : Bool) (w : World) (hm : (mayH k c l f && !f) = false) :
    Calls Tryz.prog 26 #[.pointer (some ⟨hb, 0, none⟩), .agg #[.int .i64 k, .int .i64 c, .int .i64 l, .bool f]] w fun e w' => e = .returned (.int .i64 1) ∧ Keep [] w w' := by
  have hK := Keep.alloc [] w (.cells #[.int .i64 k, .int .i64 c, .int .i64 l, .bool f] 37)
  have hx := heap_alloc_new w (.cells #[.int .i64 k, .int .i64 c, .int .i64 l, .bool f] 37)
  cases hmm : mayH k c l f with
  | false =>
    have HM := (show Hid (mayH k c l f = false) from hmm)
    clear hm hmm
    go_enter Tryz.func26, Tryz.ntmps26
    go_wp2_with (first | (go_at_call 50; refine (rmayh_any k c l f _).mono ?_; rw [HM.out]; rintro e w1 ⟨rfl, hK1⟩))
    go_ret
    exact ⟨rfl, hK.trans hK1⟩
  | true =>
    have HM := (show Hid (mayH k c l f = true) from hmm)
    rw [hmm] at hm
    have hf : f = true := by simpa using hm
    subst hf
    clear hm hmm
    go_enter Tryz.func26, Tryz.ntmps26
    go_wp2_with (first | (go_at_call 50; refine (rmayh_any k c l true _).mono ?_; rw [HM.out]; rintro e w1 ⟨rfl, hK1⟩; obtain ⟨g0, g1, g2, g3⟩ := four_cells (hK1.blk hx (by simp))))
    go_ret
    exact ⟨rfl, hK.trans hK1⟩
set_option maxRecDepth 100000 in
set_option maxHeartbeats 1600000 in
theorem rmay9_fits {mb : Nat} (k c l E : Int) (w : World) (h : Has w0 F0 (rrawA hb mb ws kd ds) w) (hm : mayH k c l false = true) (hT : FitsT ds k c l E) :
    Calls Tryz.prog 26 #[.pointer (some ⟨hb, 0, none⟩), .agg #[.int .i64 k, .int .i64 c, .int .i64 l, .bool false]] w fun e w' => e = .returned (.int .i64 E) ∧ Keep [] w w' := by
  have hK := Keep.alloc [] w (.cells #[.int .i64 k, .int .i64 c, .int .i64 l, .bool false] 37)
  have hx := heap_alloc_new w (.cells #[.int .i64 k, .int .i64 c, .int .i64 l, .bool false] 37)
  have HX := (show Hid (Has w0 F0 (rrawA hb mb ws kd ds) (w.alloc (.cells #[.int .i64 k, .int .i64 c, .int .i64 l, .bool false] 37))) from h.keep0 hK)
  have HM := (show Hid (mayH k c l false = true) from hm)
  have hbd := mayH_bd hm
  have hc1 : k = 1 → 1 ≤ c := by
    intro e; subst e; rw [mayH_1] at hm; unfold inB at hm; simp at hm; omega
  clear h hm
  cases hT with
  | other hk =>
    have hd : (k == 1) = false := by simpa using hk
    clear hc1
    go_enter Tryz.func26, Tryz.ntmps26
    go_wp2_with (first | (go_at_call 50; refine (rmayh_any k c l false _).mono ?_; rw [HM.out]; rintro e w1 ⟨rfl, hK1⟩; obtain ⟨g0, g1, g2, g3⟩ := four_cells (hK1.blk hx (by simp))))
    go_ret
    exact ⟨rfl, hK.trans hK1⟩
  | none hk hc =>
    subst hk
    have hc2 : (ds.length : Int) < c := by have := hc1 rfl; omega
    have hd : decide ((ds.length : Int) < c) = true := decide_eq_true hc2
    obtain ⟨n, hn⟩ : ∃ n, ds.length = n := ⟨_, rfl⟩
    have HN := (show Hid (ds.length = n) from hn)
    rw [hn] at hc2 hd
    clear hc hc1 hn
    go_enter Tryz.func26, Tryz.ntmps26
    go_upto_region 4 with (first | (go_at_call 50; refine (rmayh_any 1 c l false _).mono ?_; rw [HM.out]; rintro e w1 ⟨rfl, hK1⟩; obtain ⟨g0, g1, g2, g3⟩ := four_cells (hK1.blk hx (by simp))))
    obtain ⟨_, ⟨va, vc, q1⟩, _⟩ := (HX.out.keep0 hK1).rcells
    rw [HN.out] at q1
    go_quiet (fail)
    go_wp2_with fail
    go_ret
    exact ⟨rfl, (hK.trans hK1).trans (Keep.drewN [] _ _)⟩
  | arg i n L hk hci hi hln =>
    subst hk
    have hin : i < ds.length := by
      rcases Nat.lt_or_ge i ds.length with h | h
      · exact h
      · rw [List.getElem?_eq_none h] at hi; cases hi
    obtain ⟨g, vc, ao, cp, r0, r1, r2, r3, r4⟩ := HX.out.rclass hi
    have HRC := (show Hid (∀ w1, Keep [] (w.alloc (.cells #[.int .i64 1, .int .i64 c, .int .i64 l, .bool false] 37)) w1 → w1.cell? ⟨hb, 1, none⟩ = some (.slice (some ⟨g, 0, none⟩) ds.length vc) ∧ w1.cell? ⟨g, i * 2, none⟩ = some (.int .i64 n)) from fun w1 K => ⟨(K.cell (lt_of_cell2 r0) (by simp) 1).trans r0, (K.cell (lt_of_cell2 r1) (by simp) (i * 2)).trans r1⟩)
    obtain ⟨q, hn⟩ : ∃ q, ds.length = q := ⟨_, rfl⟩
    rw [hn] at hin HRC
    have hci2 : c - 1 = i := by omega
    have hd : decide ((q : Int) < c) = false := decide_eq_false (by omega)
    have hii : (i : Int) < q := by omega
    have hi0 : (0 : Int) ≤ (i : Int) := by omega
    have hnl : ¬ n = l := fun e => hln e.symm
    have hnl2 : (n == l) = false := by simpa using hnl
    have hnl3 : (n != l) = true := by simpa using hnl
    clear hi r0 r1 r2 r3 r4 hn hc1 hci hln hnl
    go_enter Tryz.func26, Tryz.ntmps26
    go_upto_region 4 with (first | (go_at_call 50; refine (rmayh_any 1 c l false _).mono ?_; rw [HM.out]; rintro e w1 ⟨rfl, hK1⟩; obtain ⟨g0, g1, g2, g3⟩ := four_cells (hK1.blk hx (by simp))))
    obtain ⟨q1, q2⟩ := HRC.out w1 hK1
    go_quiet (fail)
    go_wp2_with fail
    go_quiet (fail)
    go_wp2_with fail
    go_ret
    exact ⟨rfl, (hK.trans hK1).trans (by first | exact Keep.drewN [] _ _ | exact (Keep.drewN [] _ _).trans (Keep.drewN [] _ _))⟩
  | yes i L hk hci hi =>
    subst hk
    have hin : i < ds.length := by
      rcases Nat.lt_or_ge i ds.length with h | h
      · exact h
      · rw [List.getElem?_eq_none h] at hi; cases hi
    obtain ⟨g, vc, ao, cp, r0, r1, r2, r3, r4⟩ := HX.out.rclass hi
    have HRC := (show Hid (∀ w1, Keep [] (w.alloc (.cells #[.int .i64 1, .int .i64 c, .int .i64 l, .bool false] 37)) w1 → w1.cell? ⟨hb, 1, none⟩ = some (.slice (some ⟨g, 0, none⟩) ds.length vc) ∧ w1.cell? ⟨g, i * 2, none⟩ = some (.int .i64 l)) from fun w1 K => ⟨(K.cell (lt_of_cell2 r0) (by simp) 1).trans r0, (K.cell (lt_of_cell2 r1) (by simp) (i * 2)).trans r1⟩)
    obtain ⟨q, hn⟩ : ∃ q, ds.length = q := ⟨_, rfl⟩
    rw [hn] at hin HRC
    have hci2 : c - 1 = i := by omega
    have hd : decide ((q : Int) < c) = false := decide_eq_false (by omega)
    have hii : (i : Int) < q := by omega
    have hi0 : (0 : Int) ≤ (i : Int) := by omega
    clear hi r0 r1 r2 r3 r4 hn hc1 hci
    go_enter Tryz.func26, Tryz.ntmps26
    go_upto_region 4 with (first | (go_at_call 50; refine (rmayh_any 1 c l false _).mono ?_; rw [HM.out]; rintro e w1 ⟨rfl, hK1⟩; obtain ⟨g0, g1, g2, g3⟩ := four_cells (hK1.blk hx (by simp))))
    obtain ⟨q1, q2⟩ := HRC.out w1 hK1
    go_quiet (fail)
    go_wp2_with fail
    go_quiet (fail)
    go_wp2_with fail
    go_ret
    exact ⟨rfl, (hK.trans hK1).trans (by first | exact Keep.drewN [] _ _ | exact (Keep.drewN [] _ _).trans (Keep.drewN [] _ _))⟩
end

end Go.Proofs.YtjlbfojbgnhhbaaGreat

/-
  The document's own heap: Make.
-/
namespace Go.Proofs.YtjlbfojbgnhhbaaGreat
open Go.RowKit

/-- What is owned, as a list that later worlds keep. -/
theorem Has.fix {w0 w : World} {F0 : List Nat} {A : Asn} (h : Has w0 F0 A w) : ∃ F, (∀ k, k ∈ F → k < w.heap.size) ∧ Upd w0 w F0 F ∧ ∀ wz, Keep [] w wz → A.at' wz F := by
  obtain ⟨F, h1, u⟩ := h
  exact ⟨F, A.lt h1, u, fun wz K => A.keep h1 K (by simp)⟩
theorem Has.unfix {w0 w wz w4 : World} {F0 F : List Nat} {A : Asn} (u : Upd w0 w F0 F) (K : Keep [] w wz) (h : Has wz F A w4) : Has w0 F0 A w4 := by
  obtain ⟨F', h1, u'⟩ := h
  exact ⟨F', h1, (u.trans (Upd.refl K)).trans u'⟩
/-- The same, beside a block that was made ahead of the call and is written behind it. -/
theorem Has.unfixB {w0 w wz w4 w5 : World} {F0 F : List Nat} {A : Asn} {b : Nat} {o : Obj} (u : Upd w0 w F0 F) (hF : ∀ k, k ∈ F → k < w.heap.size) (hb : w.heap.size = b) (K : Keep [] w wz) (hs : b < wz.heap.size) (h : Has wz F A w4) (K5 : Keep [b] w4 w5) (ho : w5.heap[b]? = some o) : Has w0 F0 (A.star (blockA b o)) w5 := by
  obtain ⟨F', h1, u'⟩ := h
  have hne : ∀ k, k ∈ F' → k ≠ b := by
    intro k hk
    rcases u'.grow k hk with e | e
    · have := hF k e; omega
    · omega
  have u2 := (u.trans (Upd.refl K)).trans u'
  have hs0 := u.keep.size
  refine ⟨F' ++ [b], ⟨F', [b], fun k => by simp, A.keep h1 K5 (fun k hk => by simpa using hne k hk), ⟨rfl, ho⟩, fun k hk => by simpa using hne k hk⟩, ⟨K5.os.trans u2.keep.os, K5.tape.trans u2.keep.tape, K5.output.trans u2.keep.output, Nat.le_trans u2.keep.size K5.size, fun k hk hS => ?_⟩, fun k hk => ?_⟩
  · rw [K5.block k (Nat.lt_of_lt_of_le hk u2.keep.size) (by simp; omega), u2.keep.block k hk hS]
  · simp at hk
    rcases hk with hk | rfl
    · exact u2.grow k hk
    · right; omega

section
variable {w0 : World} {F0 : List Nat} {hb : Nat} {ws : List Int} {kd : List PK} {ds : List (Int × List Int)}
set_option maxRecDepth 100000 in
set_option maxHeartbeats 1600000 in
theorem rmake_no (k c l E : Int) (f : Bool) (w : World) (hc : ∀ w1, Keep [] w w1 → Calls Tryz.prog 26 #[.pointer (some ⟨hb, 0, none⟩), .agg #[.int .i64 k, .int .i64 c, .int .i64 l, .bool f]] w1 fun e w' => e = .returned (.int .i64 E) ∧ Keep [] w1 w') (hE : E ≠ 0) :
    Calls Tryz.prog 6 #[.pointer (some ⟨hb, 0, none⟩), .agg #[.int .i64 k, .int .i64 c, .int .i64 l, .bool f]] w fun e w' => e = .returned (.agg #[.int .i64 0, .int .i64 E]) ∧ Keep [] w w' := by
  have hK := (Keep.alloc [] w (.cells #[.int .i64 k, .int .i64 c, .int .i64 l, .bool f] 37)).trans (Keep.alloc [] _ (.cells #[.int .i64 0, .int .i64 0] 34))
  have hx := (Keep.alloc [] (w.alloc (.cells #[.int .i64 k, .int .i64 c, .int .i64 l, .bool f] 37)) (.cells #[.int .i64 0, .int .i64 0] 34)).blk (heap_alloc_new w (.cells #[.int .i64 k, .int .i64 c, .int .i64 l, .bool f] 37)) (by simp)
  have hy := second_block w (.cells #[.int .i64 k, .int .i64 c, .int .i64 l, .bool f] 37) #[.int .i64 0, .int .i64 0] 34
  have HC := (show Hid (∀ w1, Keep [] w w1 → Calls Tryz.prog 26 #[.pointer (some ⟨hb, 0, none⟩), .agg #[.int .i64 k, .int .i64 c, .int .i64 l, .bool f]] w1 fun e w' => e = .returned (.int .i64 E) ∧ Keep [] w1 w') from hc)
  have hd : (E == 0) = false := by simpa using hE
  clear hc
  go_enter Tryz.func6, Tryz.ntmps6
  go_upto_region 1 with fail
  generalize (w.alloc (.cells #[.int .i64 k, .int .i64 c, .int .i64 l, .bool f] 37)).alloc (.cells #[.int .i64 0, .int .i64 0] 34) = w2 at *
  obtain ⟨bz, hbz⟩ : ∃ bz, w.heap.size + 1 = bz := ⟨_, rfl⟩
  have HBZ := (show Hid (w.heap.size + 1 = bz) from hbz)
  rw [hbz] at hy ⊢
  clear hbz
  obtain ⟨p0, p1, p2, p3⟩ := four_cells hx
  go_wp2_with (first | (go_at_call 26; refine (HC.out _ hK).mono ?_; rintro e w3 ⟨rfl, hK3⟩; have hy3 := hK3.blk hy (by simp); obtain ⟨d0, d1⟩ := two_cells hy3; obtain ⟨f0, f1⟩ := two_free hy3))
  obtain ⟨z, hk4⟩ := two_put hy3 (.int .i64 0) (.int .i64 E)
  refine bodyPost_ret (results_cell_row rfl _ _ bz 34 #[.int .i64 0, .int .i64 E] (0, 0) _ rfl z Tryz.underlying34 rfl (by kernel_rfl)) rfl ?_
  exact ⟨rfl, (((hK.trans hK3).mono (T := [bz]) (by simp)).trans hk4).drop (by have := HBZ.out; simp; omega)⟩

set_option maxRecDepth 100000 in
set_option maxHeartbeats 3200000 in
theorem rmake_any {mb : Nat} (k c l N E : Int) (ws' : List Int) (kd' : List PK) (w : World) (h : Has w0 F0 (rrawA hb mb ws kd ds) w) (hw : WF kd) (hm : mayH k c l false = true) (hr : AllocT kd ws (l + 1) N E ws' kd')
    (hc : ∀ w1, Keep [] w w1 → Calls Tryz.prog 26 #[.pointer (some ⟨hb, 0, none⟩), .agg #[.int .i64 k, .int .i64 c, .int .i64 l, .bool false]] w1 fun e w' => e = .returned (.int .i64 0) ∧ Keep [] w1 w')
    (hE : E = 3 ∨ E = 0) (a n : Nat) (ha : E = 0 → N = a ∧ a < n ∧ 64 * kd'.length = n) (wsr : List Int) (hs3 : E = 3 → wsr = ws') (hs0 : E = 0 → wsr = ws'.set a (putH k c l false)) :
    Calls Tryz.prog 6 #[.pointer (some ⟨hb, 0, none⟩), .agg #[.int .i64 k, .int .i64 c, .int .i64 l, .bool false]] w fun e w' => e = .returned (.agg #[.int .i64 N, .int .i64 E]) ∧ Has w0 F0 (rrawA hb mb wsr kd' ds) w' := by
  have hbd := mayH_bd hm
  have hK := (Keep.alloc [] w (.cells #[.int .i64 k, .int .i64 c, .int .i64 l, .bool false] 37)).trans (Keep.alloc [] _ (.cells #[.int .i64 0, .int .i64 0] 34))
  have hX := (h.moreBlock (.cells #[.int .i64 k, .int .i64 c, .int .i64 l, .bool false] 37)).moreBlock (.cells #[.int .i64 0, .int .i64 0] 34)
  rw [show (w.alloc (.cells #[.int .i64 k, .int .i64 c, .int .i64 l, .bool false] 37)).heap.size = w.heap.size + 1 by simp] at hX
  have HC := (show Hid (∀ w1, Keep [] w w1 → Calls Tryz.prog 26 #[.pointer (some ⟨hb, 0, none⟩), .agg #[.int .i64 k, .int .i64 c, .int .i64 l, .bool false]] w1 fun e w' => e = .returned (.int .i64 0) ∧ Keep [] w1 w') from hc)
  have HM := (show Hid (mayH k c l false = true) from hm)
  have HR := (show Hid (AllocT kd ws (l + 1) N E ws' kd') from hr)
  have HWR := (show Hid (IntKind.i64.wrap (l + 1) = l + 1) from IntWalk.i64_in _ (by omega))
  have HEE := (show Hid (E = 3 ∨ E = 0) from hE)
  have HS3 := (show Hid ((E = 3 → wsr = ws') ∧ (E = 0 → wsr = ws'.set a (putH k c l false))) from ⟨hs3, hs0⟩)
  have HAA := (show Hid (E = 0 → N = a ∧ a < n ∧ 64 * kd'.length = n) from ha)
  clear hc h hm hr hE ha hs3 hs0
  go_enter Tryz.func6, Tryz.ntmps6
  go_upto_region 1 with fail
  generalize (w.alloc (.cells #[.int .i64 k, .int .i64 c, .int .i64 l, .bool false] 37)).alloc (.cells #[.int .i64 0, .int .i64 0] 34) = w2 at *
  generalize w.heap.size + 1 = bz at *
  generalize w.heap.size = bx at *
  have HX := (show Hid (Has w0 F0 (((rrawA hb mb ws kd ds).star (blockA bx (.cells #[.int .i64 k, .int .i64 c, .int .i64 l, .bool false] 37))).star (blockA bz (.cells #[.int .i64 0, .int .i64 0] 34))) w2) from hX)
  obtain ⟨p0, p1, p2, p3⟩ := four_cells hX.fst.blk
  clear hX
  go_upto_region 4 with (first | (go_at_call 26; refine (HC.out _ hK).mono ?_; rintro e w3 ⟨rfl, hK3⟩))
  go_cut [6] from 14 to 21 (fun v wz => ∃ by', v = .pointer (some ⟨by', 0, none⟩) ∧ Hid (Has w0 F0 ((((rrawA hb mb ws' kd' ds).star (blockA bx (.cells #[.int .i64 k, .int .i64 c, .int .i64 l, .bool false] 37))).star (blockA bz (.cells #[.int .i64 0, .int .i64 0] 34))).star (blockA by' (.cells #[.int .i64 N, .int .i64 E] 34))) wz))
  case first =>
    have hX3 := HX.out.keep0 hK3
    obtain ⟨b0, _⟩ := hX3.fst.fst.rcells
    obtain ⟨r0, r1, r2, r3⟩ := four_cells hX3.fst.blk
    have hK4 := (Keep.alloc [] w3 (.cells #[.int .i64 0, .int .i64 0] 34)).trans (Keep.drew [] _)
    have hX4 := hX3.keep0 hK4
    obtain ⟨c0, _⟩ := hX4.fst.fst.rcells
    obtain ⟨s0, s1, s2, s3⟩ := four_cells hX4.fst.blk
    obtain ⟨F, hFl, hFu, hFz⟩ := hX3.fix
    have HF := (show Hid ((∀ k, k ∈ F → k < w3.heap.size) ∧ Upd w0 w3 F0 F ∧ ∀ wz, Keep [] w3 wz → (((rrawA hb mb ws kd ds).star (blockA bx (.cells #[.int .i64 k, .int .i64 c, .int .i64 l, .bool false] 37))).star (blockA bz (.cells #[.int .i64 0, .int .i64 0] 34))).at' wz F) from ⟨hFl, hFu, hFz⟩)
    have hn1 := World.new_ne _ _ b0
    have hn2 := World.new_ne _ _ r2
    clear hX3 hX4 hFl hFu hFz p0 p1 p2 p3 hK hK3 HX HC HS3 HAA HEE
    go_region_law (first | (go_simp; rw [HWR.out]; refine (has_left (Has.start (HF.out.2.2 _ (by first | exact Keep.drew [] _ | exact (Keep.alloc [] _ _).trans (Keep.drew [] _)))) (fun F hF => has_left hF (fun F hF => yalloc _ (l + 1) N E ws' kd' hF hw HR.out))).mono ?_; rintro e w4 ⟨rfl, hX4⟩; have HX4 := (show Hid (Has _ F (((rrawA hb mb ws' kd' ds).star (blockA bx (.cells #[.int .i64 k, .int .i64 c, .int .i64 l, .bool false] 37))).star (blockA bz (.cells #[.int .i64 0, .int .i64 0] 34))) w4) from hX4); obtain ⟨u0, _⟩ := hX4.fst.fst.rcells; obtain ⟨v0, v1, v2, v3⟩ := four_cells hX4.fst.blk; try (have hz := hX4.K.blk (heap_alloc_new w3 (.cells #[.int .i64 0, .int .i64 0] 34)) (fun e => by have := HF.out.1 _ e; omega); obtain ⟨y0, y1⟩ := two_cells hz; obtain ⟨z0, z1⟩ := two_free hz); clear hX4))
    all_goals first
      | (obtain ⟨hz1, hk4⟩ := two_put hz (.int .i64 N) (.int .i64 E)
         have H5 := Has.unfixB HF.out.2.1 HF.out.1 rfl hK4 (by simp) HX4.out hk4 hz1
         clear hk4 hz y0 y1 z0 z1
         generalize (w4.setCell ⟨w3.heap.size, 0, none⟩ (.int .i64 N)).setCell ⟨w3.heap.size, 1, none⟩ (.int .i64 E) = w5 at *
         generalize w3.heap.size = by' at *)
      | (have H5 := (Has.unfix HF.out.2.1 (Keep.drew [] w3) HX4.out).moreBlock (.cells #[.int .i64 N, .int .i64 E] 34)
         generalize w4.alloc (.cells #[.int .i64 N, .int .i64 E] 34) = w5 at *
         generalize w4.heap.size = by' at *)
    all_goals (
      have HH5 := (show Hid (Has w0 F0 ((((rrawA hb mb ws' kd' ds).star (blockA bx (.cells #[.int .i64 k, .int .i64 c, .int .i64 l, .bool false] 37))).star (blockA bz (.cells #[.int .i64 0, .int .i64 0] 34))).star (blockA by' (.cells #[.int .i64 N, .int .i64 E] 34))) w5) from H5)
      clear H5
      go_wp2_with fail
      go_meet
      exact ⟨by', rfl, HH5⟩)
  case rest =>
    obtain ⟨by', rfl, HH5⟩ := hcut
    obtain ⟨w5, rfl⟩ : ∃ w5, w5 = wc := ⟨_, rfl⟩
    have H5 := HH5.out
    obtain ⟨b5, _, ⟨gw, q5, t5⟩, _⟩ := H5.fst.fst.fst.rcells
    obtain ⟨g0, g1⟩ := two_cells H5.blk
    obtain ⟨x0, x1, x2, x3⟩ := four_cells H5.fst.fst.blk
    obtain ⟨d0, d1⟩ := two_cells H5.fst.blk
    obtain ⟨f0, f1⟩ := two_free H5.fst.blk
    clear H5 HX hK hK3 HC p0 p1 p2 p3
    rcases HEE.out with hE | hE
    · have HSR := (show Hid (wsr = ws') from HS3.out.1 hE)
      subst hE
      clear t5 q5 b5 HS3
      go_wp2_with fail
      obtain ⟨z, hk6⟩ := two_put HH5.out.fst.blk (.int .i64 N) (.int .i64 3)
      refine bodyPost_ret (results_cell_row rfl _ _ bz 34 #[.int .i64 N, .int .i64 3] (0, 0) _ rfl z Tryz.underlying34 rfl (by kernel_rfl)) rfl ?_
      exact ⟨rfl, by rw [HSR.out]; exact (HH5.out.fst.block hk6 z).fst.fst⟩
    · obtain ⟨hN, hlt, hn⟩ := HAA.out hE
      obtain ⟨x, hx⟩ : ∃ x, putH k c l false = x := ⟨_, rfl⟩
      have HP := (show Hid (putH k c l false = x) from hx)
      have HSR := (show Hid (wsr = ws'.set a x) from by show _ = _; rw [← hx]; exact HS3.out.2 hE)
      subst hE hN
      obtain ⟨q6, q7⟩ := t5 a (by omega)
      rw [hn] at q5
      have hni : (a : Int) < n := by omega
      have HQ := (show Hid (∀ w', Keep [] w5 w' → w'.cell? ⟨mb, 0, none⟩ = some (.slice (some ⟨gw, 0, none⟩) n n) ∧ w'.cell? ⟨hb, 0, none⟩ = some (.pointer (some ⟨mb, 0, none⟩)) ∧ w'.cell? ⟨gw, a, none⟩ = some (.int .i64 (ws'[a]?.getD 0)) ∧ w'.frozen? ⟨gw, a, none⟩ = false) from fun w' K => ⟨(K.cell (lt_of_cell2 q5) (by simp) 0).trans q5, (K.cell (lt_of_cell2 b5) (by simp) 0).trans b5, (K.cell (lt_of_cell2 q6) (by simp) a).trans q6, by
        have e := K.block gw (lt_of_cell2 q6) (by simp)
        unfold World.frozen? at q7 ⊢
        rw [e]; exact q7⟩)
      generalize ws'[a]?.getD 0 = xo at q6 HQ
      clear t5 HAA hn hx HS3
      go_wp2_with fail
      go_cut [] from 25 to 36 (fun wz => Hid (Has w0 F0 ((((rrawA hb mb (ws'.set a x) kd' ds).star (blockA bx (.cells #[.int .i64 k, .int .i64 c, .int .i64 l, .bool false] 37))).star (blockA bz (.cells #[.int .i64 0, .int .i64 0] 34))).star (blockA by' (.cells #[.int .i64 a, .int .i64 0] 34))) wz))
      case first =>
        go_region_law (first | (go_simp; refine (rputh_yes k c l false _ HM.out).mono ?_; rw [HP.out]; rintro e w6 ⟨rfl, hK6⟩; obtain ⟨m0, m1, m2, m3⟩ := HQ.out _ ((Keep.drew [] w5).trans hK6); have hH6 := (HH5.out.keep0 (Keep.drew [] w5)).keep0 hK6; have HH6 := (show Hid (Has w0 F0 ((((rrawA hb mb ws' kd' ds).star (blockA bx (.cells #[.int .i64 k, .int .i64 c, .int .i64 l, .bool false] 37))).star (blockA bz (.cells #[.int .i64 0, .int .i64 0] 34))).star (blockA by' (.cells #[.int .i64 a, .int .i64 0] 34))) w6) from hH6); obtain ⟨i0, i1⟩ := two_cells hH6.blk; obtain ⟨j0, j1, j2, j3⟩ := four_cells hH6.fst.fst.blk; clear hH6))
        all_goals (
          go_wp2_with fail
          go_meet
          exact (HH6.out.left (fun F e => (Has.start e).left (fun F e => (Has.start e).left (fun F e => (Has.start e).rset m0 a x)))))
      case rest =>
        have H7 : Has w0 F0 ((((rrawA hb mb (ws'.set a x) kd' ds).star (blockA bx (.cells #[.int .i64 k, .int .i64 c, .int .i64 l, .bool false] 37))).star (blockA bz (.cells #[.int .i64 0, .int .i64 0] 34))).star (blockA by' (.cells #[.int .i64 a, .int .i64 0] 34))) wc := hcut.out
        obtain ⟨i0, i1⟩ := two_cells H7.blk
        obtain ⟨d0, d1⟩ := two_cells H7.fst.blk
        obtain ⟨f0, f1⟩ := two_free H7.fst.blk
        have HH7 := (show Hid (Has w0 F0 ((((rrawA hb mb (ws'.set a x) kd' ds).star (blockA bx (.cells #[.int .i64 k, .int .i64 c, .int .i64 l, .bool false] 37))).star (blockA bz (.cells #[.int .i64 0, .int .i64 0] 34))).star (blockA by' (.cells #[.int .i64 a, .int .i64 0] 34))) wc) from H7)
        clear H7 HH5 HQ x0 x1 x2 x3 q5 q6 q7 b5
        go_wp2_with fail
        obtain ⟨z, hk6⟩ := two_put HH7.out.fst.blk (.int .i64 a) (.int .i64 0)
        refine bodyPost_ret (results_cell_row rfl _ _ bz 34 #[.int .i64 a, .int .i64 0] (0, 0) _ rfl z Tryz.underlying34 rfl (by kernel_rfl)) rfl ?_
        exact ⟨rfl, by rw [HSR.out]; exact (HH7.out.fst.block hk6 z).fst.fst⟩
theorem rmake (k c l N E : Int) (f : Bool) (ws' : List Int) (kd' : List PK) (w : World) (h : Has w0 F0 (rheapA hb ws kd ds) w) (hT : MakeT kd ws ds k c l f N E ws' kd') :
    Calls Tryz.prog 6 #[.pointer (some ⟨hb, 0, none⟩), .agg #[.int .i64 k, .int .i64 c, .int .i64 l, .bool f]] w fun e w' => e = .returned (.agg #[.int .i64 N, .int .i64 E]) ∧ Has w0 F0 (rheapA hb ws' kd' ds) w' := by
  have hf := h.rfine
  have hf' := (hT.fine hf).1
  obtain ⟨mb, hr⟩ := h.rraw
  cases hT with
  | arg hm => exact has_same h (rmake_no k c l 1 f w (fun w1 _ => rmay9_arg k c l f w1 hm) (by omega))
  | fits E hm e hF hE => subst e; exact has_same h (rmake_no k c l E false w (fun w1 K => rmay9_fits k c l E w1 (hr.keep0 K) hm hF) hE)
  | full hm e hF hA =>
    subst e
    refine (rmake_any k c l 0 3 ws kd w hr hf.wf hm (.no (by have := mayH_bd hm; have := room_ge (l + 1) (by omega) (by omega); omega) hA) (fun w1 K => rmay9_fits k c l 0 w1 (hr.keep0 K) hm hF) (.inl rfl) 0 0 (by omega) ws (fun _ => rfl) (by omega)).mono ?_
    rintro e w' ⟨rfl, hX⟩
    exact ⟨rfl, hX.rheap hf⟩
  | yes a b kd' hm e hF hA hb' =>
    subst e
    obtain ⟨b', hb2, h1, h2, h3, h4, h5, _⟩ := hA.spec hf.wf
    have hl := hf.len
    refine (rmake_any k c l a 0 _ kd' w hr hf.wf hm (.yes a b kd' hA hb') (fun w1 K => rmay9_fits k c l 0 w1 (hr.keep0 K) hm hF) (.inr rfl) a _ (fun _ => ⟨rfl, ?_, rfl⟩) _ (by omega) (fun _ => rfl)).mono ?_
    · have := hf'.len
      rw [List.length_set, fill0_length _ _ _ (by omega)] at this
      omega
    · rintro e w' ⟨rfl, hX⟩
      exact ⟨rfl, hX.rheap hf'⟩
end

end Go.Proofs.YtjlbfojbgnhhbaaGreat

/-
  Package object: what Make, Final and New answer and leave.
-/
namespace Go.Proofs.YtjlbfojbgnhhbaaGreat
open Go.RowKit

section
variable {w0 : World} {F0 : List Nat} {hb : Nat} {ws : List Int} {kd : List PK} {ds : List (Int × List Int)}

set_option maxRecDepth 100000 in
set_option maxHeartbeats 1600000 in
theorem omake_full {sb tb : Nat} (k c l : Int) (w : World) (h : Has w0 F0 (rawA hb sb tb ws kd ds) w) (hw : WF kd) (hm : mayH k c l false = true) (hT : FitsT ds k c l 0) (hl : ds.length ≤ 256) (hr : AllocT kd ws (l + 1) 0 3 ws kd) :
    Calls Tryz.prog 24 #[.pointer (some ⟨hb, 0, none⟩), .agg #[.int .i64 k, .int .i64 c, .int .i64 l, .bool false]] w fun e w' => e = .returned (.tuple #[.int .i64 0, .int .i64 3]) ∧ Has w0 F0 (rawA hb sb tb ws kd ds) w' := by
  have hK := Keep.alloc [] w (.cells #[.int .i64 k, .int .i64 c, .int .i64 l, .bool false] 37)
  have hx := heap_alloc_new w (.cells #[.int .i64 k, .int .i64 c, .int .i64 l, .bool false] 37)
  obtain ⟨g0, g1, g2, g3⟩ := four_cells hx
  have HX := (show Hid (Has w0 F0 ((rawA hb sb tb ws kd ds).star (blockA w.heap.size (.cells #[.int .i64 k, .int .i64 c, .int .i64 l, .bool false] 37))) (w.alloc (.cells #[.int .i64 k, .int .i64 c, .int .i64 l, .bool false] 37))) from h.more hK ⟨rfl, hx⟩ (fun k hk => by simp at hk; omega))
  have HM := (show Hid (mayH k c l false = true) from hm)
  have HT := (show Hid (FitsT ds k c l 0) from hT)
  have hbd := mayH_bd hm
  have HR := (show Hid (AllocT kd ws (l + 1) 0 3 ws kd) from hr)
  have HWR := (show Hid (IntKind.i64.wrap (l + 1) = l + 1) from IntWalk.i64_in _ (by omega))
  clear hm h hT hr
  go_enter Tryz.func24, Tryz.ntmps24
  go_wp2_with (first | (go_at_call 46; refine (hmay_any k c l false _).mono ?_; rw [HM.out]; rintro e w1 ⟨rfl, hK1⟩; have hx1 := hK1.blk hx (by simp); obtain ⟨d0, d1, d2, d3⟩ := four_cells hx1) | (go_at_call 47; refine (ofits k c l 0 false _ (HX.out.fst.keep0 hK1) HT.out hl).mono ?_; rintro e w2 ⟨rfl, hK2⟩))
  have hx2 := hK2.blk hx1 (by simp)
  have hX2 := ((HX.out.keep0 hK1).keep0 hK2).keep0 (Keep.drew [] w2)
  obtain ⟨b0, b1, _⟩ := hX2.fst.cells
  have HX2 := (show Hid (Has w0 F0 ((rawA hb sb tb ws kd ds).star (blockA w.heap.size (.cells #[.int .i64 k, .int .i64 c, .int .i64 l, .bool false] 37))) w2.drew) from hX2)
  obtain ⟨p0, p1, p2, p3⟩ := four_cells ((Keep.drew [] w2).blk hx2 (by simp))
  clear hX2 hx hx1 hx2 hK hK1 hK2 d0 d1 d2 d3 g0 g1 g2 g3
  go_region_held3 (fun wz => wz.cell? ⟨hb, 0, none⟩ = some (.pointer (some ⟨sb, 0, none⟩)) ∧ wz.cell? ⟨w.heap.size, 2, none⟩ = some (.int .i64 l)) (go_keep) (first | (go_at_call 48; rw [HWR.out]; refine (has_left HX2.out (fun F hF => xalloc _ (l + 1) 0 3 ws kd hF hw HR.out)).mono ?_; rintro e w3 ⟨rfl, hX3⟩; have HX3 := (show Hid (Has w0 F0 ((rawA hb sb tb ws kd ds).star (blockA w.heap.size (.cells #[.int .i64 k, .int .i64 c, .int .i64 l, .bool false] 37))) w3) from hX3); obtain ⟨u0, u1, _⟩ := hX3.fst.cells; obtain ⟨v0, v1, v2, v3⟩ := four_cells (hX3.snd.fact (fun _ h => h.2)); clear hX3))
  go_wp2_with fail
  go_ret2
  exact ⟨rfl, HX3.out.fst⟩
set_option maxRecDepth 100000 in
set_option maxHeartbeats 1600000 in
theorem omake_yes {sb tb : Nat} (k c l : Int) (a : Nat) (ws' : List Int) (kd' : List PK) (w : World) (h : Has w0 F0 (rawA hb sb tb ws kd ds) w) (hw : WF kd) (hm : mayH k c l false = true) (hT : FitsT ds k c l 0) (hl : ds.length ≤ 256) (hr : AllocT kd ws (l + 1) a 0 ws' kd') (hlt : a < ws'.length) :
    Calls Tryz.prog 24 #[.pointer (some ⟨hb, 0, none⟩), .agg #[.int .i64 k, .int .i64 c, .int .i64 l, .bool false]] w fun e w' => e = .returned (.tuple #[.int .i64 a, .int .i64 0]) ∧ Has w0 F0 (rawA hb sb tb (ws'.set a (putH k c l false)) kd' ds) w' := by
  have hK := Keep.alloc [] w (.cells #[.int .i64 k, .int .i64 c, .int .i64 l, .bool false] 37)
  have hx := heap_alloc_new w (.cells #[.int .i64 k, .int .i64 c, .int .i64 l, .bool false] 37)
  obtain ⟨g0, g1, g2, g3⟩ := four_cells hx
  have HX := (show Hid (Has w0 F0 ((rawA hb sb tb ws kd ds).star (blockA w.heap.size (.cells #[.int .i64 k, .int .i64 c, .int .i64 l, .bool false] 37))) (w.alloc (.cells #[.int .i64 k, .int .i64 c, .int .i64 l, .bool false] 37))) from h.more hK ⟨rfl, hx⟩ (fun k hk => by simp at hk; omega))
  have HM := (show Hid (mayH k c l false = true) from hm)
  have HT := (show Hid (FitsT ds k c l 0) from hT)
  have hbd := mayH_bd hm
  have HR := (show Hid (AllocT kd ws (l + 1) a 0 ws' kd') from hr)
  have HWR := (show Hid (IntKind.i64.wrap (l + 1) = l + 1) from IntWalk.i64_in _ (by omega))
  clear hm h hT hr
  go_enter Tryz.func24, Tryz.ntmps24
  go_wp2_with (first | (go_at_call 46; refine (hmay_any k c l false _).mono ?_; rw [HM.out]; rintro e w1 ⟨rfl, hK1⟩; have hx1 := hK1.blk hx (by simp); obtain ⟨d0, d1, d2, d3⟩ := four_cells hx1) | (go_at_call 47; refine (ofits k c l 0 false _ (HX.out.fst.keep0 hK1) HT.out hl).mono ?_; rintro e w2 ⟨rfl, hK2⟩))
  have hx2 := hK2.blk hx1 (by simp)
  have hX2 := ((HX.out.keep0 hK1).keep0 hK2).keep0 (Keep.drew [] w2)
  obtain ⟨b0, b1, _⟩ := hX2.fst.cells
  have HX2 := (show Hid (Has w0 F0 ((rawA hb sb tb ws kd ds).star (blockA w.heap.size (.cells #[.int .i64 k, .int .i64 c, .int .i64 l, .bool false] 37))) w2.drew) from hX2)
  obtain ⟨p0, p1, p2, p3⟩ := four_cells ((Keep.drew [] w2).blk hx2 (by simp))
  clear hX2 hx hx1 hx2 hK hK1 hK2 d0 d1 d2 d3 g0 g1 g2 g3
  go_region_held3 (fun wz => wz.cell? ⟨hb, 0, none⟩ = some (.pointer (some ⟨sb, 0, none⟩)) ∧ wz.cell? ⟨w.heap.size, 2, none⟩ = some (.int .i64 l)) (go_keep) (first | (go_at_call 48; rw [HWR.out]; refine (has_left HX2.out (fun F hF => xalloc _ (l + 1) a 0 ws' kd' hF hw HR.out)).mono ?_; rintro e w3 ⟨rfl, hX3⟩; have HX3 := (show Hid (Has w0 F0 ((rawA hb sb tb ws' kd' ds).star (blockA w.heap.size (.cells #[.int .i64 k, .int .i64 c, .int .i64 l, .bool false] 37))) w3) from hX3); obtain ⟨u0, u1, _⟩ := hX3.fst.cells; obtain ⟨v0, v1, v2, v3⟩ := four_cells (hX3.snd.fact (fun _ h => h.2)); clear hX3))
  go_wp2_with (first | (go_at_call 49; refine (osethead a k c l false _ HX3.out.fst HM.out hlt).mono ?_; rintro e w4 ⟨rfl, hX4⟩))
  go_ret2
  exact ⟨rfl, hX4⟩
theorem omake (k c l N E : Int) (f : Bool) (ws' : List Int) (kd' : List PK) (w : World) (h : Has w0 F0 (heapA hb ws kd ds) w) (hT : MakeT kd ws ds k c l f N E ws' kd') :
    Calls Tryz.prog 24 #[.pointer (some ⟨hb, 0, none⟩), .agg #[.int .i64 k, .int .i64 c, .int .i64 l, .bool f]] w fun e w' => e = .returned (.tuple #[.int .i64 N, .int .i64 E]) ∧ Has w0 F0 (heapA hb ws' kd' ds) w' := by
  have hf := h.fine
  have hf' := (hT.fine hf).1
  obtain ⟨sb, tb, hr⟩ := h.raw
  cases hT with
  | arg hm => exact has_same h (omake_arg k c l f w hm)
  | fits E hm e hF hE => subst e; exact has_same h (omake_fits k c l E w hr hm hF hE hf.few)
  | full hm e hF hA =>
    subst e
    refine (omake_full k c l w hr hf.wf hm hF hf.few (.no (by have := mayH_bd hm; have := room_ge (l + 1) (by omega) (by omega); omega) hA)).mono ?_
    rintro e w' ⟨rfl, hX⟩
    exact ⟨rfl, hX.heap hf⟩
  | yes a b kd' hm e hF hA hb' =>
    subst e
    obtain ⟨b', hb2, h1, h2, h3, h4, h5, _⟩ := hA.spec hf.wf
    have hl := hf.len
    refine (omake_yes k c l a _ kd' w hr hf.wf hm hF hf.few (.yes a b kd' hA hb') ?_).mono ?_
    · rw [fill0_length _ _ _ (by omega)]; omega
    · rintro e w' ⟨rfl, hX⟩
      exact ⟨rfl, hX.heap hf'⟩

/-! ### Final -/
set_option maxHeartbeats 1600000 in
theorem ofinal_no (pv : Option Addr) (a k c l E : Int) (f : Bool) (w : World) (hc : Calls Tryz.prog 40 #[.pointer pv, .int .i64 a] w fun e w' => e = .returned (.tuple #[.agg #[.int .i64 k, .int .i64 c, .int .i64 l, .bool f], .int .i64 E]) ∧ Keep [] w w') (hE : E ≠ 0) :
    Calls Tryz.prog 29 #[.pointer pv, .int .i64 a] w fun e w' => e = .returned (.int .i64 E) ∧ Keep [] w w' := by
  have HC := (show Hid (Calls Tryz.prog 40 #[.pointer pv, .int .i64 a] w fun e w' => e = .returned (.tuple #[.agg #[.int .i64 k, .int .i64 c, .int .i64 l, .bool f], .int .i64 E]) ∧ Keep [] w w') from hc)
  have hd : (E == 0) = false := by simpa using hE
  clear hc
  go_enter Tryz.func29, Tryz.ntmps29
  go_wp2_with (first | (go_at_call 40; refine HC.out.mono ?_; rintro e w1 ⟨rfl, hK1⟩))
  go_ret
  exact ⟨rfl, hK1.trans (Keep.alloc [] _ _)⟩
set_option maxHeartbeats 1600000 in
theorem ofinal_kind (pv : Option Addr) (a c l : Int) (f : Bool) (w : World) (hc : Calls Tryz.prog 40 #[.pointer pv, .int .i64 a] w fun e w' => e = .returned (.tuple #[.agg #[.int .i64 4, .int .i64 c, .int .i64 l, .bool f], .int .i64 0]) ∧ Keep [] w w') :
    Calls Tryz.prog 29 #[.pointer pv, .int .i64 a] w fun e w' => e = .returned (.int .i64 5) ∧ Keep [] w w' := by
  have HC := (show Hid (Calls Tryz.prog 40 #[.pointer pv, .int .i64 a] w fun e w' => e = .returned (.tuple #[.agg #[.int .i64 4, .int .i64 c, .int .i64 l, .bool f], .int .i64 0]) ∧ Keep [] w w') from hc)
  clear hc
  go_enter Tryz.func29, Tryz.ntmps29
  go_wp2_with (first | (go_at_call 40; refine HC.out.mono ?_; rintro e w1 ⟨rfl, hK1⟩; obtain ⟨g0, g1, g2, g3⟩ := four_cells (heap_alloc_new w1 (.cells #[.int .i64 4, .int .i64 c, .int .i64 l, .bool f] 37))))
  go_ret
  exact ⟨rfl, hK1.trans (Keep.alloc [] _ _)⟩
set_option maxHeartbeats 1600000 in
theorem ofinal_has (pv : Option Addr) (a k c l : Int) (w : World) (hk : k ≠ 4) (hc : Calls Tryz.prog 40 #[.pointer pv, .int .i64 a] w fun e w' => e = .returned (.tuple #[.agg #[.int .i64 k, .int .i64 c, .int .i64 l, .bool true], .int .i64 0]) ∧ Keep [] w w') :
    Calls Tryz.prog 29 #[.pointer pv, .int .i64 a] w fun e w' => e = .returned (.int .i64 4) ∧ Keep [] w w' := by
  have HC := (show Hid (Calls Tryz.prog 40 #[.pointer pv, .int .i64 a] w fun e w' => e = .returned (.tuple #[.agg #[.int .i64 k, .int .i64 c, .int .i64 l, .bool true], .int .i64 0]) ∧ Keep [] w w') from hc)
  have hd : (k == 4) = false := by simpa using hk
  clear hc
  go_enter Tryz.func29, Tryz.ntmps29
  go_wp2_with (first | (go_at_call 40; refine HC.out.mono ?_; rintro e w1 ⟨rfl, hK1⟩; obtain ⟨g0, g1, g2, g3⟩ := four_cells (heap_alloc_new w1 (.cells #[.int .i64 k, .int .i64 c, .int .i64 l, .bool true] 37))))
  go_ret
  exact ⟨rfl, hK1.trans (Keep.alloc [] _ _)⟩
set_option maxRecDepth 100000 in
set_option maxHeartbeats 1600000 in
theorem ofinal_yes {sb tb : Nat} (b : Nat) (k c l : Int) (w : World) (h : Has w0 F0 (rawA hb sb tb ws kd ds) w) (hk : k ≠ 4) (hm : mayH k c l true = true) (hlt : b < ws.length) (hc : Calls Tryz.prog 40 #[.pointer (some ⟨hb, 0, none⟩), .int .i64 b] w fun e w' => e = .returned (.tuple #[.agg #[.int .i64 k, .int .i64 c, .int .i64 l, .bool false], .int .i64 0]) ∧ Keep [] w w') :
    Calls Tryz.prog 29 #[.pointer (some ⟨hb, 0, none⟩), .int .i64 b] w fun e w' => e = .returned (.int .i64 0) ∧ Has w0 F0 (rawA hb sb tb (ws.set b (putH k c l true)) kd ds) w' := by
  have HC := (show Hid (Calls Tryz.prog 40 #[.pointer (some ⟨hb, 0, none⟩), .int .i64 b] w fun e w' => e = .returned (.tuple #[.agg #[.int .i64 k, .int .i64 c, .int .i64 l, .bool false], .int .i64 0]) ∧ Keep [] w w') from hc)
  have hd : (k == 4) = false := by simpa using hk
  have HX := (show Hid (Has w0 F0 (rawA hb sb tb ws kd ds) w) from h)
  have HM := (show Hid (mayH k c l true = true) from hm)
  clear hc h hm
  go_enter Tryz.func29, Tryz.ntmps29
  go_upto_region 8 with (first | (go_at_call 40; refine HC.out.mono ?_; rintro e w1 ⟨rfl, hK1⟩; have hx := heap_alloc_new w1 (.cells #[.int .i64 k, .int .i64 c, .int .i64 l, .bool false] 37); obtain ⟨g0, g1, g2, g3⟩ := four_cells hx))
  have hK2 := hK1.trans (Keep.alloc [] w1 (.cells #[.int .i64 k, .int .i64 c, .int .i64 l, .bool false] 37))
  have hn := hK1.size
  generalize w1.alloc (.cells #[.int .i64 k, .int .i64 c, .int .i64 l, .bool false] 37) = w2 at *
  have hK3 : Keep [] w (w2.setCell ⟨w1.heap.size, 3, none⟩ (.bool true)) := ((hK2.mono (T := [w1.heap.size]) (by simp)).trans (Keep.setCell _ _ (by simp))).drop (by simp; omega)
  have hx3 : (w2.setCell ⟨w1.heap.size, 3, none⟩ (.bool true)).heap[w1.heap.size]? = some (.cells #[.int .i64 k, .int .i64 c, .int .i64 l, .bool true] 37 (0, 0)) := by simpa using heap_setCell_same w2 w1.heap.size 3 _ _ (.bool true) hx
  obtain ⟨f0, f1, f2, f3⟩ := four_free hx
  go_upto_region 9 with fail
  generalize w2.setCell ⟨w1.heap.size, 3, none⟩ (.bool true) = w3 at *
  obtain ⟨u0, u1, u2, u3⟩ := four_cells hx3
  clear g0 g1 g2 g3 hx hK2 f0 f1 f2 f3 hx3
  go_wp2_with (first | (go_at_call 49; refine (osethead b k c l true _ (HX.out.keep0 hK3) HM.out hlt).mono ?_; rintro e w4 ⟨rfl, hX4⟩))
  go_ret
  exact ⟨rfl, hX4⟩
theorem ofinal (a E : Int) (ws' : List Int) (w : World) (h : Has w0 F0 (heapA hb ws kd ds) w) (hT : FinalT kd ws a E ws') :
    Calls Tryz.prog 29 #[.pointer (some ⟨hb, 0, none⟩), .int .i64 a] w fun e w' => e = .returned (.int .i64 E) ∧ Has w0 F0 (heapA hb ws' kd ds) w' := by
  have hf := h.fine
  have hf' := hT.fine hf
  obtain ⟨sb, tb, hr⟩ := h.raw
  cases hT with
  | none hn => exact has_same h (ofinal_no _ a _ _ _ _ _ w (ohead a _ _ _ _ _ w h (.no hn)) (by omega))
  | kind b m c l f hA => exact has_same h (ofinal_kind _ a _ _ _ w (ohead a _ _ _ _ _ w h (.yes b m 4 c l f hA)))
  | has b m k c l hA hk => exact has_same h (ofinal_has _ a _ _ _ w hk (ohead a _ _ _ _ _ w h (.yes b m k c l true hA)))
  | yes b m k c l hA hk =>
    obtain ⟨rfl, e1, e2, e3, e4, e5⟩ := hA.facts hf.wf
    refine (ofinal_yes b k c l w hr hk (may_final hA.2.2.1 hk) (by have := hf.len; omega) (ohead b _ _ _ _ _ w h (.yes b m k c l false hA))).mono ?_
    rintro e w' ⟨rfl, hX⟩
    exact ⟨rfl, hX.heap hf'⟩
end

/-! ### New -/
set_option maxHeartbeats 1600000 in
theorem onew_no (n : Int) (w : World) (h : ¬ (1 ≤ n ∧ n ≤ 256)) :
    Calls Tryz.prog 21 #[.int .i64 n] w fun e w' => e = .returned (.tuple #[.pointer none, .int .i64 1]) ∧ Keep [] w w' := by
  have HN := (show Hid (¬ (1 ≤ n ∧ n ≤ 256)) from h)
  clear h
  go_enter Tryz.func21, Tryz.ntmps21
  go_wp2_with (first | (go_at_call 44; refine (snew_no n _ HN.out).mono ?_; rintro e w1 ⟨rfl, rfl⟩))
  go_ret2
  exact ⟨rfl, Keep.refl _ _⟩
set_option maxHeartbeats 1600000 in
theorem onew (n : Nat) (w : World) (h1 : 1 ≤ n) (h2 : n ≤ 256) :
    Calls Tryz.prog 21 #[.int .i64 n] w fun e w' => ∃ hb F, e = .returned (.tuple #[.pointer (some ⟨hb, 0, none⟩), .int .i64 0]) ∧ (heapA hb (zeros (64 * n)) (freshK n) []).at' w' F ∧ Keep [] w w' ∧ ∀ k, k ∈ F → w.heap.size ≤ k := by
  go_enter Tryz.func21, Tryz.ntmps21
  go_wp2_with (first | (go_at_call 44; refine (snew_ok n _ h1 h2).mono ?_; rintro e w1 ⟨sb, F, rfl, hS, hK1, hsb, hF⟩) | (go_at_call 45; refine (tnew _).mono ?_; rintro e w2 ⟨tb, rfl, hT, hK2, htb⟩))
  go_ret2
  have hlb := hT.lt tb (by simp)
  have hlF := hS.lt
  have hs1 := hK1.size
  have hs2 := hK2.size
  have hK3 := Keep.alloc [] w2 (.cells #[.pointer (some ⟨sb, 0, none⟩), .pointer (some ⟨tb, 0, none⟩)] 84)
  refine ⟨_, w2.heap.size :: (F ++ [tb]), rfl, ⟨⟨sb, tb, [w2.heap.size], F ++ [tb], by simp, ⟨rfl, heap_alloc_new w2 _⟩, ⟨F, [tb], by simp, (hS.keep0 hK2).keep0 hK3, hT.keep hK3 (by simp), ?_⟩, ?_⟩, Fine.fresh n h1 h2⟩, (hK1.trans hK2).trans hK3, ?_⟩
  · intro k hk
    have := hlF k hk
    simp; omega
  · intro k hk
    simp at hk
    subst hk
    simp only [List.mem_append, List.mem_singleton, not_or]
    exact ⟨fun e => by have := hlF _ e; omega, by omega⟩
  · intro k hk
    simp at hk
    rcases hk with rfl | hk | rfl
    · omega
    · exact hF k hk
    · omega
/-- A new heap, younger than all there was. -/
theorem onew_has (n : Nat) (w : World) (h1 : 1 ≤ n) (h2 : n ≤ 256) :
    Calls Tryz.prog 21 #[.int .i64 n] w fun e w' => ∃ hb, e = .returned (.tuple #[.pointer (some ⟨hb, 0, none⟩), .int .i64 0]) ∧ Has w [] (heapA hb (zeros (64 * n)) (freshK n) []) w' := by
  refine (onew n w h1 h2).mono ?_
  rintro e w' ⟨hb, F, rfl, hH, hK, hF⟩
  exact ⟨hb, rfl, F, hH, hK, fun k hk => .inr (hF k hk)⟩

end Go.Proofs.YtjlbfojbgnhhbaaGreat

/-
  Package object: what upTo, words and Refs answer.
-/
namespace Go.Proofs.YtjlbfojbgnhhbaaGreat
open Go.RowKit

theorem Row.ints {w : World} {t : TypeId} {g : Nat} {L : List Int} (h : Row w t g L) (hb : ∀ i : Nat, inI (L[i]?.getD 0)) : IntsAt w (some ⟨g, 0, none⟩) L :=
  ⟨fun _ => ⟨g, 0, rfl, h.lt, fun i hi => by rw [Nat.zero_add]; exact h.cell hi⟩, fun i => (hb i).1, fun i => (hb i).2⟩
theorem upL_bd (l : Int) (hl : l ≤ 1023) : ∀ i : Nat, inI ((upL l)[i]?.getD 0) := by
  intro i
  by_cases hi : i < l.toNat
  · rw [upL_get l i hi]; unfold inI; omega
  · rw [List.getElem?_eq_none (by rw [upL_length]; omega)]; exact inI_0
/-- The fields of an object of l fields at b. -/
def wordsL (ws : List Int) (b : Nat) (l : Int) : List Int := (List.range l.toNat).map (fun i => ws[b + 1 + i]?.getD 0)
theorem wordsL_length (ws : List Int) (b : Nat) (l : Int) : (wordsL ws b l).length = l.toNat := by simp [wordsL]
theorem wordsL_get (ws : List Int) (b : Nat) (l : Int) (i : Nat) (h : i < l.toNat) : (wordsL ws b l)[i]?.getD 0 = ws[b + 1 + i]?.getD 0 := by simp [wordsL, h]
theorem wordsL_bd {ws : List Int} (h : ∀ i : Nat, inI (ws[i]?.getD 0)) (b : Nat) (l : Int) : ∀ i : Nat, inI ((wordsL ws b l)[i]?.getD 0) := by
  intro i
  by_cases hi : i < l.toNat
  · rw [wordsL_get ws b l i hi]; exact h _
  · rw [List.getElem?_eq_none (by rw [wordsL_length]; omega)]; exact inI_0

section
variable {w0 : World} {F0 : List Nat} {hb : Nat} {ws : List Int} {kd : List PK} {ds : List (Int × List Int)}
set_option maxHeartbeats 1600000 in
theorem owords {sb tb : Nat} (b k : Nat) (l : Int) (w : World) (h : Has w0 F0 (rawA hb sb tb ws kd ds) w) (hk : l = k) (hl : l ≤ 1023) (hlt : b + k < ws.length) (hb0 : b ≤ 20000) :
    Calls Tryz.prog 41 #[.pointer (some ⟨hb, 0, none⟩), .int .i64 b, .int .i64 l] w fun e w' => ∃ z, e = .returned (.slice (some ⟨z, 0, none⟩) k k) ∧ Row w' 3 z (wordsL ws b l) ∧ Keep [] w w' ∧ w.heap.size ≤ z := by
  subst hk
  have hmk : ∀ w, (Instr.makeSlice 23 (.int .i64 (k : Int)) (.int .i64 (k : Int))).run Tryz.prog w = .ok (.slice (some ⟨w.heap.size, 0, none⟩) k k) (w.alloc (.cells (madeCells #[.int .i64 0] k) 3)) :=
    fun w => run_make_row' (P := Tryz.prog) 23 3 (.int .i64 0) 8 Tryz.underlying23 Tryz.infoIntC rfl .i64 .i64 k (by omega) (by omega) w
  have HX := (show Hid (Has w0 F0 (rawA hb sb tb ws kd ds) w) from h)
  clear h
  go_enter Tryz.func41, Tryz.ntmps41
  go_wp2
  have hR := Row.made w 3 k
  have hK := Keep.alloc [] w (.cells (madeCells #[.int .i64 0] k) 3)
  have hz : w.heap.size < (w.alloc (.cells (madeCells #[.int .i64 0] k) 3)).heap.size := by simp
  clear hmk
  generalize w.alloc (.cells (madeCells #[.int .i64 0] k) 3) = w1 at *
  obtain ⟨z, hzz⟩ : ∃ z, w.heap.size = z := ⟨_, rfl⟩
  rw [hzz] at hR hz ⊢
  go_loopw [13] (fun i wr => ∃ (j : Nat) (L : List Int), i = .int .i64 j ∧ j ≤ k ∧ Hid (L.length = k) ∧ Hid (∀ t : Nat, t < j → L[t]?.getD 0 = ws[b + 1 + t]?.getD 0) ∧ Row wr 3 z L ∧ Keep [z] w wr) (fun i _ => k - (intOf i).toNat)
  case atStart => exact ⟨0, _, rfl, by omega, zeros_length k, fun t h => by omega, hR, hK.mono (by simp)⟩
  case round =>
    obtain ⟨j, L, rfl, hj, HL, HJ, hR2, hK2⟩ := hrel
    clear hR hK
    have hK0 : Keep [] w wr := hK2.drop (by simp; omega)
    by_cases hlt2 : j < k
    · have y1 := hR2.cell (i := j) (by rw [HL.out]; exact hlt2)
      have y2 := hR2.free j
      obtain ⟨x, hx⟩ : ∃ x, ws[b + 1 + j]?.getD 0 = x := ⟨_, rfl⟩
      have HV := (show Hid (ws[b + 1 + j]?.getD 0 = x) from hx)
      have HR := (show Hid (Row (wr.setCell ⟨z, j, none⟩ (.int .i64 x)) 3 z (L.set j x)) from hR2.put j _)
      have hK3 : Keep [z] w (wr.setCell ⟨z, j, none⟩ (.int .i64 x)) := hK2.trans (Keep.setCell _ _ (by simp))
      obtain ⟨c0, _, ⟨ab, ag, c2, hAr⟩, _, _⟩ := (HX.out.keep0 hK0).cells
      obtain ⟨p, hp⟩ : ∃ p : Nat, b + 1 + j = p := ⟨_, rfl⟩
      have hpi : (b : Int) + 1 + j = p := by omega
      have hpl : p < ws.length := by omega
      rw [hp] at HV
      clear hR2 hK2 hx hp
      go_wp2_with (first | (go_at_call 60; refine (xload _ ab ag p hAr hpl).mono ?_; rw [HV.out]; rintro e w' ⟨rfl, rfl⟩))
      go_roundw
      case rel =>
        refine ⟨j + 1, L.set j x, by go_num, by omega, by show _ = _; rw [List.length_set]; exact HL.out, fun t ht => ?_, HR.out, hK3⟩
        by_cases e : t = j
        · subst e; rw [set_get_same _ _ _ (by rw [HL.out]; exact hlt2), show b + 1 + t = p by omega]; exact HV.out.symm
        · rw [set_get_other _ _ _ _ (fun e' => e e'.symm)]; exact HJ.out t (by omega)
      case measure => simp [intOf]; omega
    · obtain rfl : j = k := by omega
      have hLe : L = wordsL ws b j := eq_of_getD (by rw [HL.out, wordsL_length]; omega) (fun t => by
        by_cases ht : t < j
        · rw [HJ.out t ht, wordsL_get _ _ _ t (by omega)]
        · rw [List.getElem?_eq_none (by rw [HL.out]; omega), List.getElem?_eq_none (by rw [wordsL_length]; omega)])
      rw [hLe] at hR2
      have HR := (show Hid (Row wr 3 z (wordsL ws b j)) from hR2)
      clear hR2 hLe
      go_wp2
      go_ret
      exact ⟨z, rfl, HR.out, hK0, by omega⟩
theorem two_bd : ∀ i : Nat, inI (([2] : List Int)[i]?.getD 0) := by
  intro i
  rcases i with _ | i <;> simp [inI]
end

end Go.Proofs.YtjlbfojbgnhhbaaGreat

/-
  The document's own heap: Final, Refs, a new one.
-/
namespace Go.Proofs.YtjlbfojbgnhhbaaGreat
open Go.RowKit

section
variable {w0 : World} {F0 : List Nat} {hb : Nat} {ws : List Int} {kd : List PK} {ds : List (Int × List Int)}
set_option maxRecDepth 100000 in
set_option maxHeartbeats 1600000 in
theorem rfinal_no (a k c l E : Int) (f ok : Bool) (w : World) (hE : (ok = false ∧ E = 2) ∨ (ok = true ∧ k = 4 ∧ E = 5) ∨ (ok = true ∧ k ≠ 4 ∧ f = true ∧ E = 4)) (hc : Calls Tryz.prog 43 #[.pointer (some ⟨hb, 0, none⟩), .int .i64 a] w fun e w' => e = .returned (.agg #[.int .i64 k, .int .i64 c, .int .i64 l, .bool f, .bool ok]) ∧ Keep [] w w') :
    Calls Tryz.prog 30 #[.pointer (some ⟨hb, 0, none⟩), .int .i64 a] w fun e w' => e = .returned (.int .i64 E) ∧ Keep [] w w' := by
  have HC := (show Hid (Calls Tryz.prog 43 #[.pointer (some ⟨hb, 0, none⟩), .int .i64 a] w fun e w' => e = .returned (.agg #[.int .i64 k, .int .i64 c, .int .i64 l, .bool f, .bool ok]) ∧ Keep [] w w') from hc)
  clear hc
  rcases hE with ⟨rfl, rfl⟩ | ⟨rfl, rfl, rfl⟩ | ⟨rfl, hk, rfl, rfl⟩
  · go_enter Tryz.func30, Tryz.ntmps30
    go_wp2_with (first | (go_at_call 43; refine HC.out.mono ?_; rintro e w1 ⟨rfl, hK1⟩; obtain ⟨_, g0, g1, g2, g3, g4⟩ := five_free (heap_alloc_new w1 (.cells #[.int .i64 k, .int .i64 c, .int .i64 l, .bool f, .bool false] 89))))
    go_ret
    exact ⟨rfl, hK1.trans (Keep.alloc [] _ _)⟩
  · go_enter Tryz.func30, Tryz.ntmps30
    go_wp2_with (first | (go_at_call 43; refine HC.out.mono ?_; rintro e w1 ⟨rfl, hK1⟩; obtain ⟨_, g0, g1, g2, g3, g4⟩ := five_free (heap_alloc_new w1 (.cells #[.int .i64 4, .int .i64 c, .int .i64 l, .bool f, .bool true] 89))))
    go_ret
    exact ⟨rfl, hK1.trans (Keep.alloc [] _ _)⟩
  · have hd : (k == 4) = false := by simpa using hk
    go_enter Tryz.func30, Tryz.ntmps30
    go_wp2_with (first | (go_at_call 43; refine HC.out.mono ?_; rintro e w1 ⟨rfl, hK1⟩; obtain ⟨_, g0, g1, g2, g3, g4⟩ := five_free (heap_alloc_new w1 (.cells #[.int .i64 k, .int .i64 c, .int .i64 l, .bool true, .bool true] 89))))
    go_ret
    exact ⟨rfl, hK1.trans (Keep.alloc [] _ _)⟩
set_option maxRecDepth 100000 in
set_option maxHeartbeats 1600000 in
theorem rfinal_yes {mb : Nat} (b n : Nat) (k c l : Int) (w : World) (h : Has w0 F0 (rrawA hb mb ws kd ds) w) (hk : k ≠ 4) (hm : mayH k c l true = true) (hlt : b < n) (hn : 64 * kd.length = n) (hc : Calls Tryz.prog 43 #[.pointer (some ⟨hb, 0, none⟩), .int .i64 b] w fun e w' => e = .returned (.agg #[.int .i64 k, .int .i64 c, .int .i64 l, .bool false, .bool true]) ∧ Keep [] w w') :
    Calls Tryz.prog 30 #[.pointer (some ⟨hb, 0, none⟩), .int .i64 b] w fun e w' => e = .returned (.int .i64 0) ∧ Has w0 F0 (rrawA hb mb (ws.set b (putH k c l true)) kd ds) w' := by
  have HC := (show Hid (Calls Tryz.prog 43 #[.pointer (some ⟨hb, 0, none⟩), .int .i64 b] w fun e w' => e = .returned (.agg #[.int .i64 k, .int .i64 c, .int .i64 l, .bool false, .bool true]) ∧ Keep [] w w') from hc)
  have hd : (k == 4) = false := by simpa using hk
  have HX := (show Hid (Has w0 F0 (rrawA hb mb ws kd ds) w) from h)
  have HM := (show Hid (mayH k c l true = true) from hm)
  have HN := (show Hid (64 * kd.length = n) from hn)
  obtain ⟨x, hx⟩ : ∃ x, putH k c l true = x := ⟨_, rfl⟩
  have HP := (show Hid (putH k c l true = x) from hx)
  rw [hx]
  have hni : (b : Int) < n := by omega
  clear hc h hm hn hx
  go_enter Tryz.func30, Tryz.ntmps30
  go_upto_region 8 with (first | (go_at_call 43; refine HC.out.mono ?_; rintro e w1 ⟨rfl, hK1⟩; obtain ⟨_, g0, g1, g2, g3, g4⟩ := five_free (heap_alloc_new w1 (.cells #[.int .i64 k, .int .i64 c, .int .i64 l, .bool false, .bool true] 89))))
  have hX1 := (HX.out.keep0 hK1).moreBlock (.cells #[.int .i64 k, .int .i64 c, .int .i64 l, .bool false, .bool true] 89)
  clear g0 g1 g2 g3 g4 hK1
  generalize w1.alloc (.cells #[.int .i64 k, .int .i64 c, .int .i64 l, .bool false, .bool true] 89) = w2 at *
  generalize w1.heap.size = bx at *
  obtain ⟨⟨_, _, _, f3, _⟩, _, _, _, g3, _⟩ := five_free hX1.blk
  have hz := heap_setCell_same w2 bx 3 _ _ (.bool true) hX1.blk
  have hX2 := hX1.block (Keep.setCell (S := [bx]) (w := w2) (a := ⟨bx, 3, none⟩) (.bool true) (by simp)) (by simpa using hz)
  have HX2 := (show Hid (Has w0 F0 ((rrawA hb mb ws kd ds).star (blockA bx (.cells #[.int .i64 k, .int .i64 c, .int .i64 l, .bool true, .bool true] 89))) (w2.setCell ⟨bx, 3, none⟩ (.bool true))) from hX2)
  clear hX1 hX2 hz
  go_upto_region 9 with fail
  generalize w2.setCell ⟨bx, 3, none⟩ (.bool true) = w5 at *
  obtain ⟨b5, _, ⟨gw, q5, t5⟩, _⟩ := HX2.out.fst.rcells
  obtain ⟨_, x0, x1, x2, x3, x4⟩ := five_free HX2.out.blk
  obtain ⟨q6, q7⟩ := t5 b (by rw [HN.out]; exact hlt)
  rw [HN.out] at q5
  have HQ := (show Hid (∀ w', Keep [] w5 w' → w'.cell? ⟨mb, 0, none⟩ = some (.slice (some ⟨gw, 0, none⟩) n n) ∧ w'.cell? ⟨hb, 0, none⟩ = some (.pointer (some ⟨mb, 0, none⟩)) ∧ w'.cell? ⟨gw, b, none⟩ = some (.int .i64 (ws[b]?.getD 0)) ∧ w'.frozen? ⟨gw, b, none⟩ = false) from fun w' K => ⟨(K.cell (lt_of_cell2 q5) (by simp) 0).trans q5, (K.cell (lt_of_cell2 b5) (by simp) 0).trans b5, (K.cell (lt_of_cell2 q6) (by simp) b).trans q6, by
    have e := K.block gw (lt_of_cell2 q6) (by simp)
    unfold World.frozen? at q7 ⊢
    rw [e]; exact q7⟩)
  generalize ws[b]?.getD 0 = xo at q6 HQ
  clear t5 HC HX f3 g3
  go_cut [] from 21 to 32 (fun wz => Hid (Has w0 F0 (rrawA hb mb (ws.set b x) kd ds) wz))
  case first =>
    go_region_law (first | (go_simp; refine (rputh_yes k c l true _ HM.out).mono ?_; rw [HP.out]; rintro e w6 ⟨rfl, hK6⟩; obtain ⟨m0, m1, m2, m3⟩ := HQ.out _ ((Keep.drew [] w5).trans hK6); have hH6 := (HX2.out.keep0 (Keep.drew [] w5)).keep0 hK6; have HH6 := (show Hid (Has w0 F0 ((rrawA hb mb ws kd ds).star (blockA bx (.cells #[.int .i64 k, .int .i64 c, .int .i64 l, .bool true, .bool true] 89))) w6) from hH6); obtain ⟨_, j0, j1, j2, j3, j4⟩ := five_free hH6.blk; clear hH6))
    all_goals (
      go_wp2_with fail
      go_meet
      exact HH6.out.fst.rset m0 b x)
  case rest =>
    go_wp2_with fail
    go_ret
    exact ⟨rfl, hcut.out⟩
theorem rfinal (a E : Int) (ws' : List Int) (w : World) (h : Has w0 F0 (rheapA hb ws kd ds) w) (hT : FinalT kd ws a E ws') :
    Calls Tryz.prog 30 #[.pointer (some ⟨hb, 0, none⟩), .int .i64 a] w fun e w' => e = .returned (.int .i64 E) ∧ Has w0 F0 (rheapA hb ws' kd ds) w' := by
  have hf := h.rfine
  have hf' := hT.fine hf
  obtain ⟨mb, hr⟩ := h.rraw
  cases hT with
  | none hn => exact has_same h (rfinal_no a _ _ _ 2 _ _ w (.inl ⟨rfl, rfl⟩) (rhead a _ _ _ _ _ w h (.no hn)))
  | kind b m c l f hA => exact has_same h (rfinal_no a _ _ _ 5 _ _ w (.inr (.inl ⟨rfl, rfl, rfl⟩)) (rhead a _ _ _ _ _ w h (.yes b m 4 c l f hA)))
  | has b m k c l hA hk => exact has_same h (rfinal_no a _ _ _ 4 _ _ w (.inr (.inr ⟨rfl, hk, rfl, rfl⟩)) (rhead a _ _ _ _ _ w h (.yes b m k c l true hA)))
  | yes b m k c l hA hk =>
    obtain ⟨rfl, e1, e2, e3, e4, e5⟩ := hA.facts hf.wf
    refine (rfinal_yes b _ k c l w hr hk (may_final hA.2.2.1 hk) (by omega) rfl (rhead b _ _ _ _ _ w h (.yes b m k c l false hA))).mono ?_
    rintro e w' ⟨rfl, hX⟩
    exact ⟨rfl, hX.rheap hf'⟩
end

end Go.Proofs.YtjlbfojbgnhhbaaGreat

/-
  The document's own heap: Refs, a new one.
-/
namespace Go.Proofs.YtjlbfojbgnhhbaaGreat
open Go.RowKit

theorem upL_snoc (q : Nat) : upL ((q + 1 : Nat) : Int) = upL (q : Int) ++ [(q : Int)] := by
  unfold upL
  rw [Int.toNat_natCast, Int.toNat_natCast, List.range_succ, List.map_append]; rfl
section
variable {w0 : World} {F0 : List Nat} {hb : Nat} {ws : List Int} {kd : List PK} {ds : List (Int × List Int)}
end

set_option maxRecDepth 100000 in
set_option maxHeartbeats 1600000 in
theorem rnewheap {w0 w : World} {F0 : List Nat} {A : Asn} (n : Nat) (h : Has w0 F0 A w) (h1 : 1 ≤ n) (h2 : n ≤ 256) :
    Calls Tryz.prog 5 #[.int .i64 n] w fun e w' => ∃ mb, e = .returned (.pointer (some ⟨mb, 0, none⟩)) ∧ Has w0 F0 (A.star (rheapA mb (zeros (64 * n)) (freshK n) [])) w' := by
  have HA := (show Hid (Has w0 F0 A w) from h)
  clear h
  go_enter Tryz.func5, Tryz.ntmps5
  go_wp2_with (first | (go_at_call 25; refine (rnews_ok n _ h1 h2).mono ?_; rintro e w1 ⟨mb, G, rfl, hR, hK, hG⟩; have HR := (show Hid (IsRef w1 mb G (zeros (64 * n)) (freshK n) ∧ Keep [] w w1 ∧ ∀ k, k ∈ G → w.heap.size ≤ k) from ⟨hR, hK, hG⟩); clear hR hK hG))
  go_ret
  obtain ⟨hR, hK, hG⟩ := HR.out
  have hK2 := Keep.alloc [] w1 (.cells #[.pointer (some ⟨mb, 0, none⟩), .slice none 0 0] 63)
  have hs := hK.size
  refine ⟨_, rfl, HA.out.more (B := rheapA w1.heap.size (zeros (64 * n)) (freshK n) []) (G := w1.heap.size :: G) (hK.trans hK2) ⟨⟨mb, [w1.heap.size], G, fun k => by simp, ⟨none, 0, [], ⟨heap_alloc_new w1 _, World.ownsRow_nil _ _ _ _, (fun a e => by cases e), (by simp), (fun i c h => by simp at h), fun k hk => by simp at hk; simp [hk]⟩, rfl⟩, hR.keep hK2 (by simp), fun k e e' => ?_⟩, Fine.fresh n h1 h2⟩ ?_⟩
  · simp at e
    have := hR.lt k e'
    omega
  · intro k hk
    simp at hk
    rcases hk with rfl | hk
    · omega
    · exact hG k hk

end Go.Proofs.YtjlbfojbgnhhbaaGreat

/-
  Whether two lists of integers are the same, as the document's own helper tells it.
-/
namespace Go.Proofs.YtjlbfojbgnhhbaaGreat
open Go.RowKit

set_option maxHeartbeats 800000 in
theorem same_q (ao bo : Option Addr) (n c d : Nat) (L : List Int) (w : World) (hA : IntsAt w ao L) (hB : IntsAt w bo L) (hn : L.length = n) (hb : n ≤ 1000000) :
    Calls Tryz.prog 14 #[.slice ao n c, .slice bo n d] w fun e w' => e = .returned (.bool true) ∧ ∃ m, w' = w.drewN m := by
  have HI := (show Hid (0 < n → ∃ b off, ao = some ⟨b, off, none⟩ ∧ b < w.heap.size ∧ ∀ i, i < n → w.cell? ⟨b, off + i, none⟩ = some (.int .i64 (L[i]?.getD 0))) from fun h => by rw [← hn] at h ⊢; exact hA.cells h)
  have HJ := (show Hid (0 < n → ∃ b off, bo = some ⟨b, off, none⟩ ∧ b < w.heap.size ∧ ∀ i, i < n → w.cell? ⟨b, off + i, none⟩ = some (.int .i64 (L[i]?.getD 0))) from fun h => by rw [← hn] at h ⊢; exact hB.cells h)
  clear hA hB hn
  go_enter Tryz.func14, Tryz.ntmps14
  go_wp2
  go_loopw [5] (fun i wr => ∃ j : Nat, i = .int .i64 j ∧ j ≤ n ∧ Hid (∃ m, wr = w.drewN m)) (fun i _ => n - (intOf i).toNat)
  case atStart => exact ⟨0, rfl, by omega, 0, rfl⟩
  case round =>
    obtain ⟨j, rfl, hj, hD⟩ := hrel
    have hK : Keep [] w wr := by obtain ⟨m, e⟩ := hD.out; rw [e]; exact Keep.drewN _ _ _
    by_cases hlt : j < n
    · obtain ⟨b, off, rfl, hbs, hcell⟩ := HI.out (by omega)
      obtain ⟨b2, off2, rfl, hbs2, hcell2⟩ := HJ.out (by omega)
      have hc := (hK.cell hbs (by simp) (off + j)).trans (hcell j hlt)
      have hc2 := (hK.cell hbs2 (by simp) (off2 + j)).trans (hcell2 j hlt)
      generalize L[j]?.getD 0 = x at hc hc2
      clear hcell hcell2
      go_wp2_with fail
      go_quiet (fail)
      go_wp2_with fail
      go_roundw
      case rel =>
        refine ⟨j + 1, by go_num, by omega, ?_⟩
        obtain ⟨m, e⟩ := hD.out
        exact ⟨m + nq, by rw [e, World.drewN_drewN]⟩
      case measure => simp [intOf]; omega
    · obtain rfl : j = n := by omega
      go_wp2
      go_ret
      exact ⟨rfl, hD.out⟩
theorem same_eq (ao bo : Option Addr) (n c d : Nat) (L : List Int) (w : World) (hA : IntsAt w ao L) (hB : IntsAt w bo L) (hn : L.length = n) (hb : n ≤ 1000000) :
    Calls Tryz.prog 14 #[.slice ao n c, .slice bo n d] w fun e w' => e = .returned (.bool true) ∧ Keep [] w w' := by
  refine (same_q ao bo n c d L w hA hB hn hb).mono ?_
  rintro e w' ⟨rfl, m, rfl⟩
  exact ⟨rfl, Keep.drewN _ _ _⟩

end Go.Proofs.YtjlbfojbgnhhbaaGreat

/-
  What the seventh folder's own helpers answer, whether a class may be as the document says it, and whether two lists of integers are the same.
-/
namespace Go.Proofs.YtjlbfojbgnhhbaaGreat
open Go.RowKit

theorem err7 (x : Int) (w : World) : Calls Tryz.prog 7 #[.int .i64 x] w fun e w' => e = .returned (.int .i64 x) ∧ w = w' := by
  go_enter Tryz.func7, Tryz.ntmps7
  go_wp2
  go_ret
  exact ⟨rfl, rfl⟩

theorem aw_n : addN [] 2 [0] = 1 := by decide
theorem aw_e : addE [] 2 [0] = 0 := by decide
theorem aw_r : addR [] 2 [0] = [(2, [0])] := by decide
end Go.Proofs.YtjlbfojbgnhhbaaGreat

/-
  Package object: what Objects answers: a list in memory of its own.
-/
namespace Go.Proofs.YtjlbfojbgnhhbaaGreat
open Go.RowKit

theorem Tryz.infoObj : (Tryz.prog.info? 80).map (fun i => (i.zero, i.size, i.bytes)) = some (some (.agg #[.int .i64 0, .int .i64 0, .int .i64 0, .int .i64 0, .bool false, .slice none 0 0]), 6, 64) := by kernel_rfl

/-- An object: where it is, its head, its fields. -/
structure OM where
  a : Int
  k : Int
  c : Int
  l : Int
  f : Bool
  L : List Int
/-- One in memory: its fields lie in a row z. -/
structure OV where
  o : OM
  z : Nat
def OV.cells (v : OV) : List Value := [.int .i64 v.o.a, .int .i64 v.o.k, .int .i64 v.o.c, .int .i64 v.o.l, .bool v.o.f, .slice (some ⟨v.z, 0, none⟩) v.o.L.length v.o.L.length]
def flatO (vs : List OV) : List Value := vs.flatMap OV.cells
theorem flatO_app (vs us : List OV) : flatO (vs ++ us) = flatO vs ++ flatO us := by simp [flatO]
theorem flatO_one (v : OV) : flatO [v] = v.cells := by simp [flatO]
theorem flatO_length (vs : List OV) : (flatO vs).length = vs.length * 6 := by
  induction vs with
  | nil => rfl
  | cons c cs ih => simp [flatO, OV.cells] at *; omega
theorem flatO_get (vs : List OV) (i : Nat) (v : OV) (h : vs[i]? = some v) (t : Nat) (ht : t < 6) : (flatO vs)[i * 6 + t]? = v.cells[t]? := by
  induction vs generalizing i with
  | nil => simp at h
  | cons d vs ih =>
    have e : flatO (d :: vs) = d.cells ++ flatO vs := by simp [flatO]
    have hd : d.cells.length = 6 := rfl
    rw [e]
    cases i with
    | zero => simp at h; subst h; rw [List.getElem?_append_left (by omega)]; simp
    | succ i =>
      simp at h
      rw [List.getElem?_append_right (by omega), hd, show (i + 1) * 6 + t - 6 = i * 6 + t by omega]
      exact ih i h

/-- A list of objects that was made since w0. -/
structure ObjsAt (w0 w : World) (va : Option Addr) (n vc : Nat) (vs : List OV) : Prop where
  own : w.ownsRow w0.heap.size 80 6 (.slice va n vc) n (flatO vs)
  len : vs.length = n
  each : ∀ (i : Nat) (v : OV), vs[i]? = some v → Row w 3 v.z v.o.L ∧ w0.heap.size ≤ v.z ∧ ∀ a, va = some a → a.block ≠ v.z
theorem ObjsAt.nil (w0 w : World) : ObjsAt w0 w none 0 0 [] := ⟨World.ownsRow_nil _ _ _ _, rfl, fun i v h => by simp at h⟩
theorem ObjsAt.keep {S : List Nat} {w0 w w' : World} {va : Option Addr} {n vc : Nat} {vs : List OV} (h : ObjsAt w0 w va n vc vs) (K : Keep S w w') (hS : ∀ k, k ∈ S → k < w0.heap.size) : ObjsAt w0 w' va n vc vs := by
  refine ⟨⟨h.own.1, ?_⟩, h.len, fun i v e => ?_⟩
  · rcases h.own.2 with h1 | ⟨g, cap, cur, h1, h2, h3, h4⟩
    · exact .inl h1
    · exact .inr ⟨g, cap, cur, h1, h2, K.blk h3 (fun e => by have := hS g e; omega), h4⟩
  · obtain ⟨h1, h2, h3⟩ := h.each i v e
    exact ⟨h1.keep K (fun e => by have := hS _ e; omega), h2, h3⟩
theorem ObjsAt.added {w0 w w4 : World} {va : Option Addr} {n vc z g cap : Nat} {vs : List OV} {o : OM} {ob : Obj} (h : ObjsAt w0 w va n vc vs) (hz : Row w 3 z o.L) (hz0 : w0.heap.size ≤ z) (hza : ∀ a, va = some a → a.block ≠ z)
    (hown : w4.ownsRow w0.heap.size 80 6 (.slice (some ⟨g, 0, none⟩) (n + 1) cap) (n + 1) (flatO vs ++ OV.cells ⟨o, z⟩)) (hg : (w.alloc ob).grownBy w4 (Value.slice va n vc).ownBlock) (hat : (Value.slice va n vc).ownBlock = some g ∨ g = w.heap.size + 1) :
    ObjsAt w0 w4 (some ⟨g, 0, none⟩) (n + 1) cap (vs ++ [⟨o, z⟩]) := by
  have own : ∀ k, (Value.slice va n vc).ownBlock = some k → ∃ a, va = some a ∧ a.block = k := by
    intro k hk
    cases va with
    | none => simp [Value.ownBlock] at hk
    | some a => simp [Value.ownBlock] at hk; exact ⟨a, rfl, hk⟩
  have row : ∀ y M, Row w 3 y M → (∀ a, va = some a → a.block ≠ y) → Row w4 3 y M ∧ g ≠ y := by
    intro y M hy hne
    have hlt := hy.lt
    refine ⟨?_, fun e => ?_⟩
    · have e1 : (w.alloc ob).heap[y]? = w.heap[y]? := Below.heap_alloc _ _ _ hlt
      have : w4.heap[y]? = (w.alloc ob).heap[y]? := hg.block y (by simp; omega) (fun e => by
        obtain ⟨a, e1, e2⟩ := own y e.symm
        exact hne a e1 e2)
      show w4.heap[y]? = _
      rw [this, e1]; exact hy
    · subst e
      rcases hat with e | e
      · obtain ⟨a, e1, e2⟩ := own _ e
        exact hne a e1 e2
      · omega
  refine ⟨by rw [flatO_app, flatO_one]; exact hown, by simp [h.len], fun i v e => ?_⟩
  rcases Nat.lt_trichotomy i vs.length with hi | hi | hi
  · rw [List.getElem?_append_left hi] at e
    obtain ⟨h1, h2, h3⟩ := h.each i v e
    obtain ⟨r1, r2⟩ := row _ _ h1 h3
    exact ⟨r1, h2, fun a e => by cases e; exact r2⟩
  · subst hi
    simp at e
    subst e
    obtain ⟨r1, r2⟩ := row _ _ hz hza
    exact ⟨r1, hz0, fun a e => by cases e; exact r2⟩
  · rw [List.getElem?_eq_none (by simp; omega)] at e; cases e
theorem ObjsAt.grow {w0 w w4 : World} {va : Option Addr} {n vc : Nat} {vs : List OV} {ob : Obj} (h : ObjsAt w0 w va n vc vs) (K : Keep [] w0 w) (hg : (w.alloc ob).grownBy w4 (Value.slice va n vc).ownBlock) : Keep [] w0 w4 := by
  refine (K.trans (Keep.alloc [] w ob)).grown hg (fun k e => ?_)
  rcases h.own.2 with ⟨h1, _⟩ | ⟨g, cap, cur, h1, h2, _⟩
  · rw [h1] at e; cases e
  · rw [h1] at e; cases e; exact h2

theorem ObjsAt.far {w0 w : World} {va : Option Addr} {n vc : Nat} {vs : List OV} (h : ObjsAt w0 w va n vc vs) (a : Addr) (e : va = some a) : w0.heap.size ≤ a.block ∧ a.block < w.heap.size := by
  rcases h.own.2 with ⟨h1, _⟩ | ⟨g, cap, cur, h1, h2, h3, _⟩
  · cases h1; cases e
  · cases h1; cases e; exact ⟨h2, lt_of_block h3⟩
theorem ObjsAt.base {w0 w1 w : World} {va : Option Addr} {n vc : Nat} {vs : List OV} (h : ObjsAt w1 w va n vc vs) (hs : w0.heap.size ≤ w1.heap.size) : ObjsAt w0 w va n vc vs :=
  ⟨own_base h.own hs, h.len, fun i v e => by obtain ⟨h1, h2, h3⟩ := h.each i v e; exact ⟨h1, by omega, h3⟩⟩

/-- What the words say of the object at a. -/
def objOf (ws : List Int) (a : Int) : OM := ⟨a, wk (ws[a.toNat]?.getD 0), wc (ws[a.toNat]?.getD 0), wl (ws[a.toNat]?.getD 0), wf (ws[a.toNat]?.getD 0), wordsL ws a.toNat (wl (ws[a.toNat]?.getD 0))⟩
def objsK (kd : List PK) (ws : List Int) : List OM := (eachK kd).map (objOf ws)
theorem objsK_length (kd : List PK) (ws : List Int) : (objsK kd ws).length = (eachK kd).length := by simp [objsK]
theorem each_at9 {kd : List PK} {ws : List Int} {ds : List (Int × List Int)} (h : Fine ws kd ds) (j : Nat) (hj : j < (eachK kd).length) : ∃ (b m : Nat) (k c l : Int) (f : Bool), (eachK kd)[j]? = some (b : Int) ∧ At kd ws b b m k c l f ∧ l + 1 ≤ m ∧ objOf ws b = ⟨b, k, c, l, f, wordsL ws b l⟩ := by
  have hm : (eachK kd)[j] ∈ eachTo kd kd.length := List.getElem_mem hj
  obtain ⟨b, n, e, _, _, hf⟩ := h.wf.each_in kd.length _ hm
  obtain ⟨k, c, l, f, h1, h2, _⟩ := h.ob.head b n hf
  obtain ⟨_, _, e1, e2, e3, e4⟩ := h1.parts
  exact ⟨b, n, k, c, l, f, by rw [List.getElem?_eq_getElem hj, e], ⟨rfl, hf, h1⟩, h2, by unfold objOf; rw [Int.toNat_natCast, e1, e2, e3, e4]⟩

theorem oneCells6 (a k c l : Int) (f : Bool) (la : Option Addr) (n lc : Nat) : ∀ u ∈ [Value.int .i64 a, .int .i64 k, .int .i64 c, .int .i64 l, .bool f, .slice la n lc], u.oneCell' = true := by
  intro u hu
  simp at hu
  rcases hu with rfl | rfl | rfl | rfl | rfl | rfl <;> rfl

section
variable {w0 : World} {F0 : List Nat} {hb : Nat} {ws : List Int} {kd : List PK} {ds : List (Int × List Int)}
set_option maxHeartbeats 800000 in
theorem oobjects_nil (w : World) :
    Calls Tryz.prog 18 #[.pointer none] w fun e w' => e = .returned (.slice none 0 0) ∧ w = w' := by
  go_enter Tryz.func18, Tryz.ntmps18
  go_wp2_with fail
  go_ret
  exact ⟨rfl, rfl⟩
set_option maxRecDepth 100000 in
set_option maxHeartbeats 3200000 in
theorem oobjects (w : World) (h : Has w0 F0 (heapA hb ws kd ds) w) :
    Calls Tryz.prog 18 #[.pointer (some ⟨hb, 0, none⟩)] w fun e w' => ∃ va vc vs, e = .returned (.slice va (eachK kd).length vc) ∧ ObjsAt w w' va (eachK kd).length vc vs ∧ vs.map OV.o = objsK kd ws ∧ Keep [] w w' := by
  obtain ⟨i0, hi, hz0, hz1, hz2⟩ := info_parts Tryz.infoObj
  have hI : Hid (Tryz.prog.info? 80 = some i0 ∧ i0.zero = some (.agg #[.int .i64 0, .int .i64 0, .int .i64 0, .int .i64 0, .bool false, .slice none 0 0]) ∧ i0.size = 6 ∧ i0.bytes = 64) := ⟨hi, hz0, hz1, hz2⟩
  clear hi hz0 hz1 hz2
  obtain ⟨sb, tb, hr⟩ := h.raw
  have hfi := h.fine
  have HX := (show Hid (Has w0 F0 (heapA hb ws kd ds) w) from h)
  have HR := (show Hid (Has w0 F0 (rawA hb sb tb ws kd ds) w) from hr)
  have HF := (show Hid (Fine ws kd ds) from hfi)
  obtain ⟨c0, _⟩ := hr.cells
  have hnb : (eachK kd).length ≤ 32 * kd.length := hfi.wf.each_len kd.length
  have hn2 := hfi.wf.len2
  obtain ⟨n, hn⟩ : ∃ n, (eachK kd).length = n := ⟨_, rfl⟩
  have HN := (show Hid ((eachK kd).length = n) from hn)
  rw [hn] at hnb ⊢
  clear h hr hfi hn
  go_enter Tryz.func18, Tryz.ntmps18
  go_wp2_with (first | (go_at_call 39; refine (xeach _ HR.out HF.out.wf).mono ?_; rw [HN.out]; rintro e w1 ⟨la, lc, rfl, hIn, hla, hK1⟩))
  have HI := (show Hid (IntsAt w1 la (eachK kd)) from hIn)
  clear hIn
  go_loopw [3, 16] (fun v i wr => ∃ (j : Nat) (va : Option Addr) (vc : Nat) (vs : List OV), v = .slice va j vc ∧ i = .int .i64 j ∧ j ≤ n ∧ Hid (ObjsAt w1 wr va j vc vs) ∧ Hid (vs.map OV.o = (objsK kd ws).take j) ∧ Keep [] w1 wr) (fun _ i _ => n - (intOf i).toNat)
  case atStart => exact ⟨0, none, 0, [], rfl, rfl, by omega, ObjsAt.nil _ _, by show _ = _; simp, Keep.refl _ _⟩
  case round =>
    obtain ⟨j, va, vc, vs, rfl, rfl, hj, HO, HM, hK⟩ := hrel
    have hKw := hK1.trans hK
    by_cases hlt : j < n
    · obtain ⟨b, m, k, c, l, f, he, hA, hlm, hob⟩ := each_at9 HF.out j (by rw [HN.out]; exact hlt)
      obtain ⟨p, off, rfl, hps, hcell⟩ := HI.out.cells (by rw [HN.out]; omega)
      have hc := (hK.cell hps (by simp) (off + j)).trans (hcell j (by rw [HN.out]; exact hlt))
      rw [he] at hc
      simp only [Option.getD_some] at hc
      have HNX := (show Hid ((objsK kd ws).take (j + 1) = (objsK kd ws).take j ++ [⟨b, k, c, l, f, wordsL ws b l⟩]) from by
        show _ = _
        have : (objsK kd ws)[j]? = some ⟨b, k, c, l, f, wordsL ws b l⟩ := by unfold objsK; rw [List.getElem?_map, he, ← hob]; rfl
        rw [List.take_add_one, this]; rfl)
      obtain ⟨_, e1, e2, e3, e4, e5⟩ := hA.facts HF.out.wf
      have hbd := hA.2.2.bd
      obtain ⟨q, hq⟩ := Int.eq_ofNat_of_zero_le hbd.2.2.2.2.1
      have HQ := (show Hid (l = q) from hq)
      have hwl : b + q < ws.length := by rw [HF.out.len]; omega
      have HT := (show Hid (HeadT kd ws (b : Int) k c l f 0) from .yes b m k c l f hA)
      have HL := (show Hid ((wordsL ws b l).length = q) from by show _ = _; rw [wordsL_length, hq]; rfl)
      have hbb : b ≤ 20000 := by omega
      have hl3 : l ≤ 1023 := by omega
      clear hcell hA hq hbd he hob hlm e1 e2 e3 e4 e5
      go_wp2_with (first | (go_at_call 40; refine (ohead b k c l 0 f _ (HX.out.keep0 hKw) HT.out).mono ?_; rintro e w3 ⟨rfl, hK3⟩; have hx3 := heap_alloc_new w3 (.cells #[.int .i64 k, .int .i64 c, .int .i64 l, .bool f] 37)))
      have hK4 := hKw.trans (hK3.trans (Keep.alloc [] w3 (.cells #[.int .i64 k, .int .i64 c, .int .i64 l, .bool f] 37)))
      have hK4b := hK.trans (hK3.trans (Keep.alloc [] w3 (.cells #[.int .i64 k, .int .i64 c, .int .i64 l, .bool f] 37)))
      have hO4 := HO.out.keep (hK3.trans (Keep.alloc [] w3 (.cells #[.int .i64 k, .int .i64 c, .int .i64 l, .bool f] 37))) (by simp)
      generalize w3.alloc (.cells #[.int .i64 k, .int .i64 c, .int .i64 l, .bool f] 37) = w4 at *
      generalize w3.heap.size = bx at *
      obtain ⟨g0, g1, g2, g3⟩ := four_cells hx3
      have hx5 := (Keep.drew [] w4).blk hx3 (by simp)
      obtain ⟨d0, d1, d2, d3⟩ := four_cells hx5
      have HO5 := (show Hid (ObjsAt w1 w4.drew va j vc vs) from hO4.keep (Keep.drew [] w4) (by simp))
      have HK5 := (show Hid (Keep [] w w4.drew) from hK4.trans (Keep.drew [] w4))
      have HK5b := (show Hid (Keep [] w1 w4.drew) from hK4b.trans (Keep.drew [] w4))
      clear hO4 hK3 HO hc
      go_region_law (first | (refine step_append_lies _ rfl (.tmp 26) (.tmp 35) 50 rfl w1.heap.size 80 i0 (.agg #[.int .i64 0, .int .i64 0, .int .i64 0, .int .i64 0, .bool false, .slice none 0 0]) 6 64 Tryz.underlying50 hI.out.1 hI.out.2.1 hI.out.2.2.1 hI.out.2.2.2 rfl (by decide) (.slice va j vc) j (flatO vs) rfl (HO6.out.keep (Keep.alloc [] w6 _) (by simp)).own ⟨w6.heap.size, 0, none⟩ 1 1 [.int .i64 b, .int .i64 k, .int .i64 c, .int .i64 l, .bool f, .slice (some ⟨z, 0, none⟩) q q] rfl rfl (World.news_of_block (heap_alloc_new w6 _)) (oneCells6 b k c l f _ q q) (by omega) (by unfold maxLen; omega) (by omega) (by have := HK6.out.size; simp; omega) (w6.heap.size + 1) (by simp) ?_; intro g cap w7 hown hgrow hat hltg; have HADD := (show Hid (ObjsAt w1 w7 (some ⟨g, 0, none⟩) (j + 1) cap (vs ++ [⟨⟨b, k, c, l, f, wordsL ws b l⟩, z⟩]) ∧ Keep [] w1 w7) from ⟨HO6.out.added (o := ⟨b, k, c, l, f, wordsL ws b l⟩) HZ.out.1 HZ.out.2.1 HZ.out.2.2 (by unfold OV.cells; rw [HL.out]; exact hown) hgrow hat, HO6.out.grow HK6.out hgrow⟩); clear hown hgrow hat hltg) | (go_simp; refine (owords b q l _ (HR.out.keep0 HK5.out) HQ.out hl3 hwl hbb).mono ?_; rintro e w6 ⟨z, rfl, hRz, hK6, hzz⟩; have hx6 := hK6.blk hx5 (by simp); obtain ⟨p0, p1, p2, p3⟩ := four_cells hx6; have HO6 := (show Hid (ObjsAt w1 w6 va j vc vs) from HO5.out.keep hK6 (by simp)); have HK6 := (show Hid (Keep [] w1 w6) from HK5b.out.trans hK6); have HZ := (show Hid (Row w6 3 z (wordsL ws b l) ∧ w1.heap.size ≤ z ∧ ∀ a, va = some a → a.block ≠ z) from ⟨hRz, by have := HK5b.out.size; omega, fun a e => by have := HO5.out.far a e; omega⟩); clear hRz hzz))
      all_goals (go_wp2_with fail)
      all_goals go_roundw
      all_goals first
        | exact ⟨j + 1, _, _, _, rfl, by go_num, by omega, HADD.out.1, (by show _ = _; rw [HNX.out, List.map_append, HM.out]; rfl), HADD.out.2⟩
        | (simp [intOf]; omega)
    · obtain rfl : j = n := by omega
      have HMM := (show Hid (vs.map OV.o = objsK kd ws) from by
        show _ = _
        rw [HM.out, List.take_of_length_le (by rw [objsK_length, HN.out]; omega)])
      go_wp2_with fail
      go_ret
      exact ⟨va, vc, vs, rfl, HO.out.base hK1.size, HMM.out, hKw⟩
end

end Go.Proofs.YtjlbfojbgnhhbaaGreat

/-
  Room: where all pages from one on are free a block is had, and those behind it stay free. Plain facts.
-/
namespace Go.Proofs.YtjlbfojbgnhhbaaGreat
open Go.RowKit

def FreeFrom (kd : List PK) (s : Nat) : Prop := ∀ t, s ≤ t → kat kd t = .free
theorem FreeFrom.fresh (n : Nat) (h : 1 ≤ n) : FreeFrom (freshK n) 1 := fun t ht => by rw [freshK_at n t h, if_neg (by omega)]
theorem FreeFrom.mono {kd : List PK} {s t : Nat} (h : FreeFrom kd s) (hs : s ≤ t) : FreeFrom kd t := fun u hu => h u (by omega)
theorem run_low {kd : List PK} {s k : Nat} {p : Int} (hk : 1 ≤ k) (hf : FreeFrom kd s) (hs : s + k ≤ kd.length) (h : runR (takenL kd) 0 k = p) : ∃ q : Nat, p = q ∧ q ≤ s := by
  have hc : Clear (takenL kd) s k := ⟨by rw [takenL_length]; omega, fun t a b => by rw [takenL_get, hf t a]; rfl⟩
  rcases runR_spec (takenL kd) k hk _ 0 rfl with ⟨_, h1⟩ | ⟨j, h1, h2⟩
  · exact absurd hc (h1 s (by omega))
  · refine ⟨j, by rw [← h, h1], ?_⟩
    rcases Nat.lt_or_ge s j with h3 | h3
    · exact absurd hc (h2.2.2 s (by omega) h3)
    · exact h3
theorem alloc_from {kd : List PK} {n : Int} {s K : Nat} (hn : 1 ≤ n ∧ n ≤ 1024) (hp : pagesI n ≤ K) (hK : 1 ≤ K) (hs : s + K ≤ kd.length) (hf : FreeFrom kd s) : ∃ a kd', AllocR kd n (some (a, kd')) ∧ FreeFrom kd' (s + K) := by
  obtain ⟨r, hr⟩ := alloc_ex kd n (by have := room_ge n hn.1 hn.2; omega)
  cases r with
  | none =>
    exfalso
    cases hr with
    | full c e1 e2 e3 => obtain ⟨q, e, _⟩ := run_low (by omega) hf (by omega) e3; omega
    | over k e1 e2 e3 e4 => obtain ⟨q, e, _⟩ := run_low e3 hf (by omega) e4; omega
  | some o =>
    obtain ⟨a, kd'⟩ := o
    refine ⟨a, kd', hr, fun t ht => ?_⟩
    cases hr with
    | old c p i xs e1 e2 e3 e4 e5 =>
      rw [kat_set_other _ _ _ _ (fun e => by subst e; rw [hf t (by omega)] at e3; cases e3)]
      exact hf t (by omega)
    | new c p e1 e2 e3 =>
      obtain ⟨q, e, h⟩ := run_low (by omega) hf (by omega) e3
      rw [kat_set_other _ _ _ _ (by omega)]
      exact hf t (by omega)
    | large k p e1 e2 e3 e4 =>
      obtain ⟨q, e, h⟩ := run_low e3 hf (by omega) e4
      rw [putParts_at _ _ _ _ (by omega), if_neg (by omega)]
      exact hf t (by omega)
/-- An object is made. -/
theorem make_from {kd : List PK} {ds : List (Int × List Int)} {k c l : Int} {s K : Nat} (ws : List Int) (hw : WF kd) (hm : mayH k c l false = true) (hF : FitsT ds k c l 0) (hp : pagesI (l + 1) ≤ K) (hK : 1 ≤ K) (hs : s + K ≤ kd.length) (hf : FreeFrom kd s) :
    ∃ (a b : Nat) (kd' : List PK), MakeT kd ws ds k c l false a 0 ((fill0 ws a b).set a (putH k c l false)) kd' ∧ AllocR kd (l + 1) (some (a, kd')) ∧ blockI (l + 1) = b ∧ FreeFrom kd' (s + K) := by
  have hb := mayH_bd hm
  obtain ⟨a, kd', h1, h2⟩ := alloc_from (kd := kd) (n := l + 1) (s := s) (K := K) (by omega) hp hK hs hf
  obtain ⟨b, hb', _⟩ := h1.spec hw
  exact ⟨a, b, kd', .yes a b kd' hm rfl hF h1 hb', h1, hb', h2⟩
theorem may_data (l : Int) (h1 : 0 ≤ l) (h2 : l ≤ 1023) : mayH 3 0 l false = true := by
  rw [mayH_23 _ _ _ (by omega), inB_yes (by omega) (by omega), inB_yes h1 h2]; rfl
theorem may_refs (l : Int) (h1 : 0 ≤ l) (h2 : l ≤ 1023) : mayH 2 0 l false = true := by
  rw [mayH_23 _ _ _ (by omega), inB_yes (by omega) (by omega), inB_yes h1 h2]; rfl
/-- What there is, behind an object that was made. -/
theorem MakeT.at {kd kd' : List PK} {ws : List Int} {k c l : Int} {a b : Nat} (hw : WF kd) (hl : ws.length = 64 * kd.length) (hm : mayH k c l false = true) (hr : AllocR kd (l + 1) (some (a, kd'))) (hb : blockI (l + 1) = b) : At kd' ((fill0 ws a b).set a (putH k c l false)) a a b k c l false := by
  obtain ⟨b', hb', h1, h2, h3, h4, h5, h6, h7⟩ := hr.spec hw
  obtain rfl : b = b' := by rw [hb] at hb'; omega
  refine ⟨rfl, by rw [h7, if_pos (by omega)], ?_⟩
  rw [set_get_same _ _ _ (by rw [fill0_length _ _ _ (by omega)]; omega)]
  exact ⟨hm, rfl⟩
/-- What there was is as it was. -/
theorem At.made {kd kd' : List PK} {ws : List Int} {n x : Int} {a b p m : Nat} {k c l : Int} {f : Bool} (h : At kd ws p p m k c l f) (hw : WF kd) (hl : ws.length = 64 * kd.length) (hr : AllocR kd n (some (a, kd'))) (hb : blockI n = b) : At kd' ((fill0 ws a b).set a x) p p m k c l f ∧ (p + m ≤ a ∨ a + b ≤ p) := by
  obtain ⟨b', hb', h1, h2, h3, h4, h5, h6, h7⟩ := hr.spec hw
  obtain rfl : b = b' := by rw [hb] at hb'; omega
  obtain ⟨_, h8, h9⟩ := h
  obtain ⟨g1, g2, g3, g4, g5, g6⟩ := hw.found h8
  have hd : p + m ≤ a ∨ a + b ≤ p := by
    rcases Nat.lt_or_ge a (p + m) with e1 | e1
    · rcases Nat.lt_or_ge p (a + b) with e2 | e2
      · have := g6 (max a p) (by omega) (by omega)
        rw [h6 (max a p) (by omega) (by omega)] at this
        cases this
      · exact .inr e2
    · exact .inl e1
  refine ⟨⟨rfl, by rw [h7, if_neg (by omega)]; exact h8, ?_⟩, hd⟩
  rw [set_get_other _ _ _ _ (by omega), fill0_get _ _ _ _ (by omega), if_neg (by omega)]
  exact h9

end Go.Proofs.YtjlbfojbgnhhbaaGreat
