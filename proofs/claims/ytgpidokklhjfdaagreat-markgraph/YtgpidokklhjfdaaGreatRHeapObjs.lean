/-
  The document's own heap: Objects.
-/
import Derived.Test.YtgpidokklhjfdaaGreatRHeapAdd
import Derived.Test.YtgpidokklhjfdaaGreatObjSame
import Derived.Test.YtgpidokklhjfdaaGreatPart6
namespace Go.Proofs.YtgpidokklhjfdaaGreat
open Go.RowKit

/-- A list of objects that was made since w0. -/
structure RObjsAt (w0 w : World) (va : Option Addr) (n vc : Nat) (vs : List RV) : Prop where
  own : w.ownsRow w0.heap.size 101 6 (.slice va n vc) n (flatR vs)
  len : vs.length = n
  each : ∀ (i : Nat) (v : RV), vs[i]? = some v → IntsAt w v.la v.o.L ∧ v.o.L.length ≤ 1000000 ∧ ∀ a, v.la = some a → w0.heap.size ≤ a.block ∧ a.block < w.heap.size ∧ ∀ b, va = some b → b.block ≠ a.block
theorem RObjsAt.nil (w0 w : World) : RObjsAt w0 w none 0 0 [] := ⟨World.ownsRow_nil _ _ _ _, rfl, fun i v h => by simp at h⟩
theorem RObjsAt.keep0 {w0 w w' : World} {va : Option Addr} {n vc : Nat} {vs : List RV} (h : RObjsAt w0 w va n vc vs) (K : Keep [] w w') : RObjsAt w0 w' va n vc vs := by
  refine ⟨⟨h.own.1, ?_⟩, h.len, fun i v e => ?_⟩
  · rcases h.own.2 with h1 | ⟨g, cap, cur, h1, h2, h3, h4⟩
    · exact .inl h1
    · exact .inr ⟨g, cap, cur, h1, h2, K.blk h3 (by simp), h4⟩
  · obtain ⟨h1, h2, h3⟩ := h.each i v e
    exact ⟨h1.keep K (fun _ _ _ => by simp), h2, fun a e => ⟨(h3 a e).1, Nat.lt_of_lt_of_le (h3 a e).2.1 K.size, (h3 a e).2.2⟩⟩
theorem RObjsAt.read {w0 w : World} {va : Option Addr} {n vc : Nat} {vs : List RV} (h : RObjsAt w0 w va n vc vs) : ObjL w va n vs :=
  ⟨h.len, own_cells h.own h.len, fun i v e => ⟨(h.each i v e).1, (h.each i v e).2.1⟩⟩
theorem RObjsAt.far {w0 w : World} {va : Option Addr} {n vc : Nat} {vs : List RV} (h : RObjsAt w0 w va n vc vs) (k : Nat) (e : (Value.slice va n vc).ownBlock = some k) : w0.heap.size ≤ k ∧ k < w.heap.size ∧ ∃ a, va = some a ∧ a.block = k := by
  rcases h.own.2 with ⟨h1, _⟩ | ⟨g, cap, cur, h1, h2, h3, _⟩
  · rw [h1] at e; cases e
  · rw [h1] at e; cases e; cases h1; exact ⟨h2, lt_of_block h3, _, rfl, rfl⟩
theorem RObjsAt.grow {w0 w w4 : World} {va : Option Addr} {n vc : Nat} {vs : List RV} {ob : Obj} (h : RObjsAt w0 w va n vc vs) (K : Keep [] w0 w) (hg : (w.alloc ob).grownBy w4 (Value.slice va n vc).ownBlock) : Keep [] w0 w4 :=
  (K.trans (Keep.alloc [] w ob)).grown hg (fun k e => (h.far k e).1)
theorem RObjsAt.added {w0 w w4 : World} {va la : Option Addr} {n vc g cap lc : Nat} {vs : List RV} {o : OM} {ob : Obj} (h : RObjsAt w0 w va n vc vs) (hI : IntsAt w la o.L) (hL : o.L.length ≤ 1000000) (hla : ∀ a, la = some a → w0.heap.size ≤ a.block ∧ a.block < w.heap.size ∧ ∀ b, va = some b → b.block ≠ a.block)
    (hown : w4.ownsRow w0.heap.size 101 6 (.slice (some ⟨g, 0, none⟩) (n + 1) cap) (n + 1) (flatR vs ++ RV.cells ⟨o, la, lc⟩)) (hg : (w.alloc ob).grownBy w4 (Value.slice va n vc).ownBlock) (hat : (Value.slice va n vc).ownBlock = some g ∨ g = w.heap.size + 1) :
    RObjsAt w0 w4 (some ⟨g, 0, none⟩) (n + 1) cap (vs ++ [⟨o, la, lc⟩]) := by
  have ints : ∀ (ao : Option Addr) (M : List Int), IntsAt w ao M → (∀ a, ao = some a → a.block < w.heap.size ∧ ∀ b, va = some b → b.block ≠ a.block) → IntsAt w4 ao M ∧ ∀ a, ao = some a → a.block < w4.heap.size ∧ g ≠ a.block := by
    intro ao M hM ha
    have hne : ∀ a, ao = some a → (Value.slice va n vc).ownBlock ≠ some a.block := fun a e e' => by
      obtain ⟨_, _, b, e1, e2⟩ := h.far _ e'
      exact (ha a e).2 b e1 e2
    refine ⟨⟨fun h0 => ?_, hM.low, hM.high⟩, fun a e => ⟨Nat.lt_of_lt_of_le (ha a e).1 (Nat.le_trans (by simp) hg.size), fun e' => ?_⟩⟩
    · obtain ⟨b, off, rfl, hb, hc⟩ := hM.cells h0
      have e : w4.heap[b]? = w.heap[b]? := (hg.block b (by simp; omega) (fun e => hne _ rfl e.symm)).trans (Below.heap_alloc _ _ _ hb)
      exact ⟨b, off, rfl, Nat.lt_of_lt_of_le hb (Nat.le_trans (by simp) hg.size), fun i hi => (World.cell?_of_block (w := w) e).trans (hc i hi)⟩
    · rcases hat with e2 | e2
      · exact hne a e (by rw [e2, e'])
      · have := (ha a e).1; omega
  refine ⟨by rw [flatR_app, flatR_one]; exact hown, by simp [h.len], fun i v e => ?_⟩
  rcases Nat.lt_trichotomy i vs.length with hi | hi | hi
  · rw [List.getElem?_append_left hi] at e
    obtain ⟨h1, h2, h3⟩ := h.each i v e
    obtain ⟨r1, r2⟩ := ints _ _ h1 (fun a e => (h3 a e).2)
    exact ⟨r1, h2, fun a e => ⟨(h3 a e).1, (r2 a e).1, fun b eb => by cases eb; exact (r2 a e).2⟩⟩
  · subst hi
    simp at e
    subst e
    obtain ⟨r1, r2⟩ := ints _ _ hI (fun a e => (hla a e).2)
    exact ⟨r1, hL, fun a e => ⟨(hla a e).1, (r2 a e).1, fun b eb => by cases eb; exact (r2 a e).2⟩⟩
  · rw [List.getElem?_eq_none (by simp; omega)] at e; cases e

section
variable {w0 : World} {F0 : List Nat} {hb : Nat} {ws : List Int} {kd : List PK} {ds : List (Int × List Int)}
theorem words_at {w : World} {gw n : Nat} {ws : List Int} (hc : ∀ i, i < n → w.cell? ⟨gw, i, none⟩ = some (.int .i64 (ws[i]?.getD 0))) (hb : ∀ i : Nat, inI (ws[i]?.getD 0)) (b b1 q : Nat) (h1 : b + 1 = b1) (h2 : b1 + q ≤ n) : IntsAt w (some ⟨gw, b1, none⟩) (wordsL ws b (q : Int)) := by
  refine ⟨fun h0 => ⟨gw, b1, rfl, ?_, fun i hi => ?_⟩, fun i => (wordsL_bd hb b q i).1, fun i => (wordsL_bd hb b q i).2⟩
  · rw [wordsL_length, Int.toNat_natCast] at h0
    exact lt_of_cell2 (hc b1 (by omega))
  · rw [wordsL_length, Int.toNat_natCast] at hi
    rw [hc (b1 + i) (by omega), wordsL_get _ _ _ i (by rw [Int.toNat_natCast]; exact hi), h1]
set_option maxRecDepth 100000 in
set_option maxHeartbeats 3200000 in
theorem robjects (w : World) (h : Has w0 F0 (rheapA hb ws kd ds) w) :
    Calls Tryz.prog 19 #[.pointer (some ⟨hb, 0, none⟩)] w fun e w' => ∃ va vc vs, e = .returned (.slice va (eachK kd).length vc) ∧ ObjL w' va (eachK kd).length vs ∧ vs.map RV.o = objsK kd ws ∧ Keep [] w w' := by
  obtain ⟨i0, hi, hz0, hz1, hz2⟩ := info_parts Tryz.infoObj
  have hI : Hid (Tryz.prog.info? 101 = some i0 ∧ i0.zero = some (.agg #[.int .i64 0, .int .i64 0, .int .i64 0, .int .i64 0, .bool false, .slice none 0 0]) ∧ i0.size = 6 ∧ i0.bytes = 64) := ⟨hi, hz0, hz1, hz2⟩
  clear hi hz0 hz1 hz2
  obtain ⟨j0, hi, hz0, hz1, hz2⟩ := info_parts Tryz.infoIntC
  have hJ : Hid (Tryz.prog.info? 3 = some j0 ∧ j0.zero = some (.int .i64 0) ∧ j0.size = 1 ∧ j0.bytes = 8) := ⟨hi, hz0, hz1, hz2⟩
  clear hi hz0 hz1 hz2
  obtain ⟨mb, hr⟩ := h.rraw
  have hfi := h.rfine
  have HX := (show Hid (Has w0 F0 (rheapA hb ws kd ds) w) from h)
  have HR := (show Hid (Has w0 F0 (rrawA hb mb ws kd ds) w) from hr)
  have HF := (show Hid (Fine ws kd ds) from hfi)
  obtain ⟨c0, _⟩ := hr.rcells
  have hnb : (eachK kd).length ≤ 32 * kd.length := hfi.wf.each_len kd.length
  have hn2 := hfi.wf.len2
  obtain ⟨n, hn⟩ : ∃ n, (eachK kd).length = n := ⟨_, rfl⟩
  have HN := (show Hid ((eachK kd).length = n) from hn)
  rw [hn] at hnb ⊢
  obtain ⟨N6, hN6⟩ : ∃ N6, 64 * kd.length = N6 := ⟨_, rfl⟩
  have HN6 := (show Hid (64 * kd.length = N6) from hN6)
  have hN6b : N6 ≤ 16384 := by omega
  clear h hr hfi hn hN6
  go_enter Tryz.func19, Tryz.ntmps19
  go_wp2_with (first | (go_at_call 48; refine (yeach _ HR.out HF.out.wf).mono ?_; rw [HN.out]; rintro e w1 ⟨la, lc, rfl, hIn, hK1⟩))
  have HI := (show Hid (IntsAt w1 la (eachK kd)) from hIn)
  clear hIn
  go_loopw [3, 5] (fun v i wr => ∃ (j : Nat) (va : Option Addr) (vc : Nat) (vs : List RV), v = .slice va j vc ∧ i = .int .i64 j ∧ j ≤ n ∧ Hid (RObjsAt w1 wr va j vc vs) ∧ Hid (vs.map RV.o = (objsK kd ws).take j) ∧ Keep [] w1 wr) (fun _ i _ => n - (intOf i).toNat)
  case atStart => exact ⟨0, none, 0, [], rfl, rfl, by omega, RObjsAt.nil _ _, by show _ = _; simp, Keep.refl _ _⟩
  case round =>
    obtain ⟨j, va, vc, vs, rfl, rfl, hj, HO, HM, hK⟩ := hrel
    have hKw := hK1.trans hK
    by_cases hlt : j < n
    · obtain ⟨b, m, k, c, l, f, he, hA, hlm, hob⟩ := each_at9 HF.out j (by rw [HN.out]; exact hlt)
      obtain ⟨p, off, rfl, hps, hcell⟩ := HI.out.cells (by rw [HN.out]; omega)
      have hc := (hK.cell hps (by simp) (off + j)).trans (hcell j (by rw [HN.out]; exact hlt))
      rw [he] at hc
      simp only [Option.getD_some] at hc
      have HNX := (show Hid ((objsK kd ws).take (j + 1) = (objsK kd ws).take j ++ [⟨b, k, c, l, f, wordsL ws b l⟩]) from by
        show _ = _
        have : (objsK kd ws)[j]? = some ⟨b, k, c, l, f, wordsL ws b l⟩ := by unfold objsK; rw [List.getElem?_map, he, ← hob]; rfl
        rw [List.take_add_one, this]; rfl)
      obtain ⟨_, e1, e2, e3, e4, e5⟩ := hA.facts HF.out.wf
      have hbd := hA.2.2.bd
      obtain ⟨q, hq⟩ := Int.eq_ofNat_of_zero_le hbd.2.2.2.2.1
      subst hq
      have HT := (show Hid (HeadT kd ws (b : Int) k c (q : Int) f 0) from .yes b m k c q f hA)
      have HL := (show Hid ((wordsL ws b (q : Int)).length = q) from by show _ = _; rw [wordsL_length]; rfl)
      obtain ⟨b1, hb1⟩ : ∃ b1 : Nat, b + 1 = b1 := ⟨_, rfl⟩
      obtain ⟨b2, hb2⟩ : ∃ b2 : Nat, b1 + q = b2 := ⟨_, rfl⟩
      have hb1i : (b : Int) + 1 = b1 := by omega
      have hb2i : (b1 : Int) + q = b2 := by omega
      have hb2l : b2 ≤ N6 := by have := HN6.out; omega
      have HBB := (show Hid (b + 1 = b1 ∧ b1 + q = b2) from ⟨hb1, hb2⟩)
      have hw1 : IntKind.i64.wrap (b1 : Int) = b1 := IntWalk.i64_in _ (by omega)
      have hw2 : IntKind.i64.wrap (b2 : Int) = b2 := IntWalk.i64_in _ (by omega)
      have hz1 : (0 : Int) ≤ (b1 : Int) := by omega
      have hz2 : (0 : Int) ≤ (b2 : Int) := by omega
      have hz3 : (b1 : Int) ≤ (b2 : Int) := by omega
      have hz4 : (b2 : Int) ≤ (N6 : Int) := by omega
      have hz5 : b1 ≤ b2 := by omega
      have hsq : b2 - b1 = q := by omega
      have hbb : b ≤ 20000 := by omega
      have hq3 : q ≤ 1023 := by omega
      clear hcell hA hbd he hob hlm e1 e2 e3 e4 e5 hb1 hb2
      go_upto_region 7 with (first | (go_at_call 41; refine (rhead b k c q 0 f _ (HX.out.keep0 hKw) HT.out).mono ?_; rintro e w3 ⟨rfl, hK3⟩))
      have hx3 := heap_alloc_new w3 (.cells #[.int .i64 k, .int .i64 c, .int .i64 q, .bool f, .bool (okE 0)] 97)
      have hKx := hK3.trans (Keep.alloc [] w3 (.cells #[.int .i64 k, .int .i64 c, .int .i64 q, .bool f, .bool (okE 0)] 97))
      have hK4 := hKw.trans hKx
      have hK4b := hK.trans hKx
      have hO4 := HO.out.keep0 hKx
      have hva : ∀ a, va = some a → a.block ≠ w3.heap.size := by
        intro a e
        rcases HO.out.own.2 with ⟨h1, _⟩ | ⟨g, cap, cur, h1, h2, h3, _⟩
        · cases h1; cases e
        · cases h1; cases e
          have := lt_of_block h3
          have := hK3.size
          show g ≠ _
          omega
      have HVA := (show Hid (∀ a, va = some a → a.block ≠ w3.heap.size) from hva)
      clear hva
      generalize w3.alloc (.cells #[.int .i64 k, .int .i64 c, .int .i64 q, .bool f, .bool (okE 0)] 97) = w4 at *
      generalize w3.heap.size = bx at *
      obtain ⟨_, x0, x1, x2, x3, _⟩ := five_free hx3
      obtain ⟨q0, _, ⟨gw, q1, q2⟩, _⟩ := (HR.out.keep0 hK4).rcells
      rw [HN6.out] at q1 q2
      have hc4 := (hKx.cell (lt_of_cell2 hc) (by simp) (off + j)).trans hc
      have hKE := (Keep.alloc [] w4 (.cells #[] 3)).trans (Keep.drew [] _)
      have HOE := (show Hid (((w4.alloc (.cells #[] 3)).drew).ownsRow w4.heap.size 3 1 (.slice (some ⟨w4.heap.size, 0, none⟩) 0 0) 0 (ints [])) from own_empty w4 3)
      obtain ⟨xo, hxo⟩ : ∃ xo, (if N6 = b1 then some (⟨gw, 0, none⟩ : Addr) else some ⟨gw, b1, none⟩) = xo := ⟨_, rfl⟩
      obtain ⟨xc, hxc⟩ : ∃ xc, N6 - b1 = xc := ⟨_, rfl⟩
      have HIW := (show Hid (IntsAt ((w4.alloc (.cells #[] 3)).drew) xo (wordsL ws b (q : Int)) ∧ (xo = none → xc = 0)) from by
        refine ⟨?_, fun e => by rw [e] at hxo; split at hxo <;> cases hxo⟩
        by_cases e : N6 = b1
        · have hq0 : q = 0 := by omega
          subst hq0
          exact IntsAt.nil _ _
        · rw [if_neg e] at hxo
          subst hxo
          exact (words_at (fun i hi => (q2 i hi).1) HF.out.ob.bd b b1 q HBB.out.1 (by omega)).keep hKE (fun _ _ _ => by simp))
      have HNV := (show Hid ((∀ B, B < w1.heap.size → B ∉ va.toList.map (·.block)) ∧ bx ∉ va.toList.map (·.block)) from ⟨fun B hB e => by
        simp at e
        obtain ⟨a, e1, e2⟩ := e
        have := (HO.out.far a.block (by rw [e1]; rfl)).1
        omega, fun e => by
        simp at e
        obtain ⟨a, e1, e2⟩ := e
        exact HVA.out a e1 e2⟩)
      have HLW := (show Hid (hb < w1.heap.size ∧ mb < w1.heap.size ∧ p < w1.heap.size) from by
        obtain ⟨r0, _, ⟨gw', r1, _⟩, _⟩ := (HR.out.keep0 hK1).rcells
        exact ⟨lt_of_cell2 r0, lt_of_cell2 r1, hps⟩)
      have HLL := (show Hid ((wordsL ws b (q : Int)).length ≤ 1000000) from by show _ ≤ _; rw [HL.out]; omega)
      have hm1 : j + 1 ≤ maxLen := by unfold maxLen; omega
      have hm2 : (j + 1) * 64 ≤ 140737488355328 := by omega
      clear q2 hc hK3 hKx HVA
      go_region_held3 (fun wz => wz.cell? ⟨hb, 0, none⟩ = some (.pointer (some ⟨mb, 0, none⟩)) ∧ wz.cell? ⟨mb, 0, none⟩ = some (.slice (some ⟨gw, 0, none⟩) N6 N6) ∧ wz.cell? ⟨p, off + j, none⟩ = some (.int .i64 b) ∧ wz.cell? ⟨bx, 0, none⟩ = some (.int .i64 k) ∧ wz.cell? ⟨bx, 1, none⟩ = some (.int .i64 c) ∧ wz.cell? ⟨bx, 2, none⟩ = some (.int .i64 q) ∧ wz.cell? ⟨bx, 3, none⟩ = some (.bool f)) (go_keep) (first
        | (refine step_append_own0 rfl (.tmp 31) (.tmp 53) 25 rfl w4.heap.size 3 j0 Tryz.underlying25 hJ.out (wordsL ws b (q : Int)) w4.heap.size rfl HOE.out (by simp) xo q xc HL.out rfl HIW.out.1 HIW.out.2 (by omega) ?_; intro la2 lc2 w6 hG1 hG2 hG3 hgr; have hK6 : Keep [] w4 w6 := (hKE.grown hgr (fun k e => by cases e; exact Nat.le_refl _)); have y0 := (hK6.cell (lt_of_cell2 q0) (by simp) 0).trans q0; have y1 := (hK6.cell (lt_of_cell2 q1) (by simp) 0).trans q1; have y2 := (hK6.cell (lt_of_cell2 hc4) (by simp) (off + j)).trans hc4; have y3 := (hK6.cell (lt_of_cell2 x0) (by simp) 0).trans x0; have y4 := (hK6.cell (lt_of_cell2 x1) (by simp) 1).trans x1; have y5 := (hK6.cell (lt_of_cell2 x2) (by simp) 2).trans x2; have y6 := (hK6.cell (lt_of_cell2 x3) (by simp) 3).trans x3; have HO6 := (show Hid (RObjsAt w1 w6 va j vc vs ∧ Keep [] w1 w6) from ⟨hO4.keep0 hK6, hK4b.trans hK6⟩); have HZ := (show Hid (IntsAt w6 la2 (wordsL ws b (q : Int)) ∧ (∀ a, la2 = some a → w1.heap.size ≤ a.block ∧ a.block < w6.heap.size ∧ ∀ z, va = some z → z.block ≠ a.block)) from ⟨hG1, fun a e => ⟨by have := (hG3 a e).1; have := hK4b.size; omega, (hG3 a e).2, fun z ez => by have := (hG3 a e).1; have := (hO4.far z.block (by rw [ez]; rfl)).2.1; omega⟩⟩); have HCE := (show Hid (RV.cells ⟨⟨b, k, c, q, f, wordsL ws b (q : Int)⟩, la2, lc2⟩ = [.int .i64 b, .int .i64 k, .int .i64 c, .int .i64 q, .bool f, .slice la2 q lc2]) from (by show _ = _; unfold RV.cells; rw [HL.out])); have HOA := (show Hid ((w6.alloc (.cells #[.int .i64 b, .int .i64 k, .int .i64 c, .int .i64 q, .bool f, .slice la2 q lc2] 101)).ownsRow w1.heap.size 101 6 (.slice va j vc) j (flatR vs) ∧ w1.heap.size ≤ (w6.alloc (.cells #[.int .i64 b, .int .i64 k, .int .i64 c, .int .i64 q, .bool f, .slice la2 q lc2] 101)).heap.size) from ⟨(HO6.out.1.keep0 (Keep.alloc [] w6 (.cells #[.int .i64 b, .int .i64 k, .int .i64 c, .int .i64 q, .bool f, .slice la2 q lc2] 101))).own, by have := HO6.out.2.size; simp; omega⟩); clear hG1 hG2 hG3 hgr hK6)
        | (refine step_append_lies (w6.alloc (.cells #[.int .i64 b, .int .i64 k, .int .i64 c, .int .i64 q, .bool f, .slice la2 q lc2] 101)) rfl (.tmp 24) (.tmp 56) 51 rfl w1.heap.size 101 i0 (.agg #[.int .i64 0, .int .i64 0, .int .i64 0, .int .i64 0, .bool false, .slice none 0 0]) 6 64 Tryz.underlying51 hI.out.1 hI.out.2.1 hI.out.2.2.1 hI.out.2.2.2 rfl (by decide) (.slice va j vc) j (flatR vs) rfl HOA.out.1 ⟨w6.heap.size, 0, none⟩ 1 1 [.int .i64 b, .int .i64 k, .int .i64 c, .int .i64 q, .bool f, .slice la2 q lc2] rfl rfl (World.news_of_block (heap_alloc_new w6 (.cells #[.int .i64 b, .int .i64 k, .int .i64 c, .int .i64 q, .bool f, .slice la2 q lc2] 101))) (oneCells6 b k c q f la2 q lc2) Nat.one_pos hm1 hm2 HOA.out.2 (w6.heap.size + 1) (by simp) ?_; intro g cap w7 hown hgrow hat hltg; have HADD := (show Hid (RObjsAt w1 w7 (some ⟨g, 0, none⟩) (j + 1) cap (vs ++ [⟨⟨b, k, c, q, f, wordsL ws b (q : Int)⟩, la2, lc2⟩]) ∧ Keep [] w1 w7) from ⟨HO6.out.1.added (o := ⟨b, k, c, q, f, wordsL ws b (q : Int)⟩) HZ.out.1 (show (wordsL ws b (q : Int)).length ≤ 1000000 from HLL.out) HZ.out.2 (by rw [HCE.out]; exact hown) hgrow hat, HO6.out.1.grow HO6.out.2 hgrow⟩); have K67 := (Keep.alloc (va.toList.map (·.block)) w6 (.cells #[.int .i64 b, .int .i64 k, .int .i64 c, .int .i64 q, .bool f, .slice la2 q lc2] 101)).trans (grown_keep hgrow); have z0 := (K67.cell (lt_of_cell2 y0) (HNV.out.1 _ HLW.out.1) 0).trans y0; have z1 := (K67.cell (lt_of_cell2 y1) (HNV.out.1 _ HLW.out.2.1) 0).trans y1; have z2 := (K67.cell (lt_of_cell2 y2) (HNV.out.1 _ HLW.out.2.2) (off + j)).trans y2; have z3 := (K67.cell (lt_of_cell2 y3) HNV.out.2 0).trans y3; have z4 := (K67.cell (lt_of_cell2 y4) HNV.out.2 1).trans y4; have z5 := (K67.cell (lt_of_cell2 y5) HNV.out.2 2).trans y5; have z6 := (K67.cell (lt_of_cell2 y6) HNV.out.2 3).trans y6; clear hown hgrow hat hltg K67))
      go_wp2_with fail
      go_roundw
      case rel => exact ⟨j + 1, _, _, _, rfl, by go_num, by omega, HADD.out.1, (by show _ = _; rw [HNX.out, List.map_append, HM.out]; rfl), HADD.out.2⟩
      case measure => simp [intOf]; omega
    · obtain rfl : j = n := by omega
      have HMM := (show Hid (vs.map RV.o = objsK kd ws) from by
        show _ = _
        rw [HM.out, List.take_of_length_le (by rw [objsK_length, HN.out]; omega)])
      have HRD := (show Hid (ObjL wr va j vs) from HO.out.read)
      go_wp2_with fail
      go_ret
      exact ⟨va, vc, vs, rfl, HRD.out, HMM.out, hKw⟩
end

end Go.Proofs.YtgpidokklhjfdaaGreat
