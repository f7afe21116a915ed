/-
  Package object: what Objects answers: a list in memory of its own.
-/
import Derived.Test.YtdpaffnpedcmpabObjList
import Derived.Deep.AppendLies
namespace Go.Proofs.Ytdpaffnpedcmpab
open Go.RowKit

theorem Try.infoObj : (Try.prog.info? 80).map (fun i => (i.zero, i.size, i.bytes)) = some (some (.agg #[.int .i64 0, .int .i64 0, .int .i64 0, .int .i64 0, .bool false, .slice none 0 0]), 6, 64) := by kernel_rfl

/-- An object: where it is, its head, its fields. -/
structure OM where
  a : Int
  k : Int
  c : Int
  l : Int
  f : Bool
  L : List Int
/-- One in memory: its fields lie in a row z. -/
structure OV where
  o : OM
  z : Nat
def OV.cells (v : OV) : List Value := [.int .i64 v.o.a, .int .i64 v.o.k, .int .i64 v.o.c, .int .i64 v.o.l, .bool v.o.f, .slice (some ⟨v.z, 0, none⟩) v.o.L.length v.o.L.length]
def flatO (vs : List OV) : List Value := vs.flatMap OV.cells
theorem flatO_app (vs us : List OV) : flatO (vs ++ us) = flatO vs ++ flatO us := by simp [flatO]
theorem flatO_one (v : OV) : flatO [v] = v.cells := by simp [flatO]
theorem flatO_length (vs : List OV) : (flatO vs).length = vs.length * 6 := by
  induction vs with
  | nil => rfl
  | cons c cs ih => simp [flatO, OV.cells] at *; omega
theorem flatO_get (vs : List OV) (i : Nat) (v : OV) (h : vs[i]? = some v) (t : Nat) (ht : t < 6) : (flatO vs)[i * 6 + t]? = v.cells[t]? := by
  induction vs generalizing i with
  | nil => simp at h
  | cons d vs ih =>
    have e : flatO (d :: vs) = d.cells ++ flatO vs := by simp [flatO]
    have hd : d.cells.length = 6 := rfl
    rw [e]
    cases i with
    | zero => simp at h; subst h; rw [List.getElem?_append_left (by omega)]; simp
    | succ i =>
      simp at h
      rw [List.getElem?_append_right (by omega), hd, show (i + 1) * 6 + t - 6 = i * 6 + t by omega]
      exact ih i h

/-- A list of objects that was made since w0. -/
structure ObjsAt (w0 w : World) (va : Option Addr) (n vc : Nat) (vs : List OV) : Prop where
  own : w.ownsRow w0.heap.size 80 6 (.slice va n vc) n (flatO vs)
  len : vs.length = n
  each : ∀ (i : Nat) (v : OV), vs[i]? = some v → Row w 3 v.z v.o.L ∧ w0.heap.size ≤ v.z ∧ ∀ a, va = some a → a.block ≠ v.z
theorem ObjsAt.nil (w0 w : World) : ObjsAt w0 w none 0 0 [] := ⟨World.ownsRow_nil _ _ _ _, rfl, fun i v h => by simp at h⟩
theorem ObjsAt.keep {S : List Nat} {w0 w w' : World} {va : Option Addr} {n vc : Nat} {vs : List OV} (h : ObjsAt w0 w va n vc vs) (K : Keep S w w') (hS : ∀ k, k ∈ S → k < w0.heap.size) : ObjsAt w0 w' va n vc vs := by
  refine ⟨⟨h.own.1, ?_⟩, h.len, fun i v e => ?_⟩
  · rcases h.own.2 with h1 | ⟨g, cap, cur, h1, h2, h3, h4⟩
    · exact .inl h1
    · exact .inr ⟨g, cap, cur, h1, h2, K.blk h3 (fun e => by have := hS g e; omega), h4⟩
  · obtain ⟨h1, h2, h3⟩ := h.each i v e
    exact ⟨h1.keep K (fun e => by have := hS _ e; omega), h2, h3⟩
theorem ObjsAt.added {w0 w w4 : World} {va : Option Addr} {n vc z g cap : Nat} {vs : List OV} {o : OM} {ob : Obj} (h : ObjsAt w0 w va n vc vs) (hz : Row w 3 z o.L) (hz0 : w0.heap.size ≤ z) (hza : ∀ a, va = some a → a.block ≠ z)
    (hown : w4.ownsRow w0.heap.size 80 6 (.slice (some ⟨g, 0, none⟩) (n + 1) cap) (n + 1) (flatO vs ++ OV.cells ⟨o, z⟩)) (hg : (w.alloc ob).grownBy w4 (Value.slice va n vc).ownBlock) (hat : (Value.slice va n vc).ownBlock = some g ∨ g = w.heap.size + 1) :
    ObjsAt w0 w4 (some ⟨g, 0, none⟩) (n + 1) cap (vs ++ [⟨o, z⟩]) := by
  have own : ∀ k, (Value.slice va n vc).ownBlock = some k → ∃ a, va = some a ∧ a.block = k := by
    intro k hk
    cases va with
    | none => simp [Value.ownBlock] at hk
    | some a => simp [Value.ownBlock] at hk; exact ⟨a, rfl, hk⟩
  have row : ∀ y M, Row w 3 y M → (∀ a, va = some a → a.block ≠ y) → Row w4 3 y M ∧ g ≠ y := by
    intro y M hy hne
    have hlt := hy.lt
    refine ⟨?_, fun e => ?_⟩
    · have e1 : (w.alloc ob).heap[y]? = w.heap[y]? := Below.heap_alloc _ _ _ hlt
      have : w4.heap[y]? = (w.alloc ob).heap[y]? := hg.block y (by simp; omega) (fun e => by
        obtain ⟨a, e1, e2⟩ := own y e.symm
        exact hne a e1 e2)
      show w4.heap[y]? = _
      rw [this, e1]; exact hy
    · subst e
      rcases hat with e | e
      · obtain ⟨a, e1, e2⟩ := own _ e
        exact hne a e1 e2
      · omega
  refine ⟨by rw [flatO_app, flatO_one]; exact hown, by simp [h.len], fun i v e => ?_⟩
  rcases Nat.lt_trichotomy i vs.length with hi | hi | hi
  · rw [List.getElem?_append_left hi] at e
    obtain ⟨h1, h2, h3⟩ := h.each i v e
    obtain ⟨r1, r2⟩ := row _ _ h1 h3
    exact ⟨r1, h2, fun a e => by cases e; exact r2⟩
  · subst hi
    simp at e
    subst e
    obtain ⟨r1, r2⟩ := row _ _ hz hza
    exact ⟨r1, hz0, fun a e => by cases e; exact r2⟩
  · rw [List.getElem?_eq_none (by simp; omega)] at e; cases e
theorem ObjsAt.grow {w0 w w4 : World} {va : Option Addr} {n vc : Nat} {vs : List OV} {ob : Obj} (h : ObjsAt w0 w va n vc vs) (K : Keep [] w0 w) (hg : (w.alloc ob).grownBy w4 (Value.slice va n vc).ownBlock) : Keep [] w0 w4 := by
  refine (K.trans (Keep.alloc [] w ob)).grown hg (fun k e => ?_)
  rcases h.own.2 with ⟨h1, _⟩ | ⟨g, cap, cur, h1, h2, _⟩
  · rw [h1] at e; cases e
  · rw [h1] at e; cases e; exact h2

theorem ObjsAt.far {w0 w : World} {va : Option Addr} {n vc : Nat} {vs : List OV} (h : ObjsAt w0 w va n vc vs) (a : Addr) (e : va = some a) : w0.heap.size ≤ a.block ∧ a.block < w.heap.size := by
  rcases h.own.2 with ⟨h1, _⟩ | ⟨g, cap, cur, h1, h2, h3, _⟩
  · cases h1; cases e
  · cases h1; cases e; exact ⟨h2, lt_of_block h3⟩
theorem ObjsAt.base {w0 w1 w : World} {va : Option Addr} {n vc : Nat} {vs : List OV} (h : ObjsAt w1 w va n vc vs) (hs : w0.heap.size ≤ w1.heap.size) : ObjsAt w0 w va n vc vs :=
  ⟨own_base h.own hs, h.len, fun i v e => by obtain ⟨h1, h2, h3⟩ := h.each i v e; exact ⟨h1, by omega, h3⟩⟩

/-- What the words say of the object at a. -/
def objOf (ws : List Int) (a : Int) : OM := ⟨a, wk (ws[a.toNat]?.getD 0), wc (ws[a.toNat]?.getD 0), wl (ws[a.toNat]?.getD 0), wf (ws[a.toNat]?.getD 0), wordsL ws a.toNat (wl (ws[a.toNat]?.getD 0))⟩
def objsK (kd : List PK) (ws : List Int) : List OM := (eachK kd).map (objOf ws)
theorem objsK_length (kd : List PK) (ws : List Int) : (objsK kd ws).length = (eachK kd).length := by simp [objsK]
theorem each_at9 {kd : List PK} {ws : List Int} {ds : List (Int × List Int)} (h : Fine ws kd ds) (j : Nat) (hj : j < (eachK kd).length) : ∃ (b m : Nat) (k c l : Int) (f : Bool), (eachK kd)[j]? = some (b : Int) ∧ At kd ws b b m k c l f ∧ l + 1 ≤ m ∧ objOf ws b = ⟨b, k, c, l, f, wordsL ws b l⟩ := by
  have hm : (eachK kd)[j] ∈ eachTo kd kd.length := List.getElem_mem hj
  obtain ⟨b, n, e, _, _, hf⟩ := h.wf.each_in kd.length _ hm
  obtain ⟨k, c, l, f, h1, h2, _⟩ := h.ob.head b n hf
  obtain ⟨_, _, e1, e2, e3, e4⟩ := h1.parts
  exact ⟨b, n, k, c, l, f, by rw [List.getElem?_eq_getElem hj, e], ⟨rfl, hf, h1⟩, h2, by unfold objOf; rw [Int.toNat_natCast, e1, e2, e3, e4]⟩

theorem oneCells6 (a k c l : Int) (f : Bool) (la : Option Addr) (n lc : Nat) : ∀ u ∈ [Value.int .i64 a, .int .i64 k, .int .i64 c, .int .i64 l, .bool f, .slice la n lc], u.oneCell' = true := by
  intro u hu
  simp at hu
  rcases hu with rfl | rfl | rfl | rfl | rfl | rfl <;> rfl

section
variable {w0 : World} {F0 : List Nat} {hb : Nat} {ws : List Int} {kd : List PK} {ds : List (Int × List Int)}
set_option maxHeartbeats 800000 in
theorem oobjects_nil (w : World) :
    Calls Try.prog 12 #[.pointer none] w fun e w' => e = .returned (.slice none 0 0) ∧ w = w' := by
  go_enter Try.func12, Try.ntmps12
  go_wp2_with fail
  go_ret
  exact ⟨rfl, rfl⟩
set_option maxRecDepth 100000 in
set_option maxHeartbeats 3200000 in
theorem oobjects (w : World) (h : Has w0 F0 (heapA hb ws kd ds) w) :
    Calls Try.prog 12 #[.pointer (some ⟨hb, 0, none⟩)] w fun e w' => ∃ va vc vs, e = .returned (.slice va (eachK kd).length vc) ∧ ObjsAt w w' va (eachK kd).length vc vs ∧ vs.map OV.o = objsK kd ws ∧ Keep [] w w' := by
  obtain ⟨i0, hi, hz0, hz1, hz2⟩ := info_parts Try.infoObj
  have hI : Hid (Try.prog.info? 80 = some i0 ∧ i0.zero = some (.agg #[.int .i64 0, .int .i64 0, .int .i64 0, .int .i64 0, .bool false, .slice none 0 0]) ∧ i0.size = 6 ∧ i0.bytes = 64) := ⟨hi, hz0, hz1, hz2⟩
  clear hi hz0 hz1 hz2
  obtain ⟨sb, tb, hr⟩ := h.raw
  have hfi := h.fine
  have HX := (show Hid (Has w0 F0 (heapA hb ws kd ds) w) from h)
  have HR := (show Hid (Has w0 F0 (rawA hb sb tb ws kd ds) w) from hr)
  have HF := (show Hid (Fine ws kd ds) from hfi)
  obtain ⟨c0, _⟩ := hr.cells
  have hnb : (eachK kd).length ≤ 32 * kd.length := hfi.wf.each_len kd.length
  have hn2 := hfi.wf.len2
  obtain ⟨n, hn⟩ : ∃ n, (eachK kd).length = n := ⟨_, rfl⟩
  have HN := (show Hid ((eachK kd).length = n) from hn)
  rw [hn] at hnb ⊢
  clear h hr hfi hn
  go_enter Try.func12, Try.ntmps12
  go_wp2_with (first | (go_at_call 34; refine (xeach _ HR.out HF.out.wf).mono ?_; rw [HN.out]; rintro e w1 ⟨la, lc, rfl, hIn, hla, hK1⟩))
  have HI := (show Hid (IntsAt w1 la (eachK kd)) from hIn)
  clear hIn
  go_loopw [3, 16] (fun v i wr => ∃ (j : Nat) (va : Option Addr) (vc : Nat) (vs : List OV), v = .slice va j vc ∧ i = .int .i64 j ∧ j ≤ n ∧ Hid (ObjsAt w1 wr va j vc vs) ∧ Hid (vs.map OV.o = (objsK kd ws).take j) ∧ Keep [] w1 wr) (fun _ i _ => n - (intOf i).toNat)
  case atStart => exact ⟨0, none, 0, [], rfl, rfl, by omega, ObjsAt.nil _ _, by show _ = _; simp, Keep.refl _ _⟩
  case round =>
    obtain ⟨j, va, vc, vs, rfl, rfl, hj, HO, HM, hK⟩ := hrel
    have hKw := hK1.trans hK
    by_cases hlt : j < n
    · obtain ⟨b, m, k, c, l, f, he, hA, hlm, hob⟩ := each_at9 HF.out j (by rw [HN.out]; exact hlt)
      obtain ⟨p, off, rfl, hps, hcell⟩ := HI.out.cells (by rw [HN.out]; omega)
      have hc := (hK.cell hps (by simp) (off + j)).trans (hcell j (by rw [HN.out]; exact hlt))
      rw [he] at hc
      simp only [Option.getD_some] at hc
      have HNX := (show Hid ((objsK kd ws).take (j + 1) = (objsK kd ws).take j ++ [⟨b, k, c, l, f, wordsL ws b l⟩]) from by
        show _ = _
        have : (objsK kd ws)[j]? = some ⟨b, k, c, l, f, wordsL ws b l⟩ := by unfold objsK; rw [List.getElem?_map, he, ← hob]; rfl
        rw [List.take_add_one, this]; rfl)
      obtain ⟨_, e1, e2, e3, e4, e5⟩ := hA.facts HF.out.wf
      have hbd := hA.2.2.bd
      obtain ⟨q, hq⟩ := Int.eq_ofNat_of_zero_le hbd.2.2.2.2.1
      have HQ := (show Hid (l = q) from hq)
      have hwl : b + q < ws.length := by rw [HF.out.len]; omega
      have HT := (show Hid (HeadT kd ws (b : Int) k c l f 0) from .yes b m k c l f hA)
      have HL := (show Hid ((wordsL ws b l).length = q) from by show _ = _; rw [wordsL_length, hq]; rfl)
      have hbb : b ≤ 20000 := by omega
      have hl3 : l ≤ 1023 := by omega
      clear hcell hA hq hbd he hob hlm e1 e2 e3 e4 e5
      go_wp2_with (first | (go_at_call 11; refine (ohead b k c l 0 f _ (HX.out.keep0 hKw) HT.out).mono ?_; rintro e w3 ⟨rfl, hK3⟩; have hx3 := heap_alloc_new w3 (.cells #[.int .i64 k, .int .i64 c, .int .i64 l, .bool f] 31)))
      have hK4 := hKw.trans (hK3.trans (Keep.alloc [] w3 (.cells #[.int .i64 k, .int .i64 c, .int .i64 l, .bool f] 31)))
      have hK4b := hK.trans (hK3.trans (Keep.alloc [] w3 (.cells #[.int .i64 k, .int .i64 c, .int .i64 l, .bool f] 31)))
      have hO4 := HO.out.keep (hK3.trans (Keep.alloc [] w3 (.cells #[.int .i64 k, .int .i64 c, .int .i64 l, .bool f] 31))) (by simp)
      generalize w3.alloc (.cells #[.int .i64 k, .int .i64 c, .int .i64 l, .bool f] 31) = w4 at *
      generalize w3.heap.size = bx at *
      obtain ⟨g0, g1, g2, g3⟩ := four_cells hx3
      have hx5 := (Keep.drew [] w4).blk hx3 (by simp)
      obtain ⟨d0, d1, d2, d3⟩ := four_cells hx5
      have HO5 := (show Hid (ObjsAt w1 w4.drew va j vc vs) from hO4.keep (Keep.drew [] w4) (by simp))
      have HK5 := (show Hid (Keep [] w w4.drew) from hK4.trans (Keep.drew [] w4))
      have HK5b := (show Hid (Keep [] w1 w4.drew) from hK4b.trans (Keep.drew [] w4))
      clear hO4 hK3 HO hc
      go_region_law (first | (refine step_append_lies _ rfl (.tmp 26) (.tmp 35) 40 rfl w1.heap.size 80 i0 (.agg #[.int .i64 0, .int .i64 0, .int .i64 0, .int .i64 0, .bool false, .slice none 0 0]) 6 64 Try.underlying40 hI.out.1 hI.out.2.1 hI.out.2.2.1 hI.out.2.2.2 rfl (by decide) (.slice va j vc) j (flatO vs) rfl (HO6.out.keep (Keep.alloc [] w6 _) (by simp)).own ⟨w6.heap.size, 0, none⟩ 1 1 [.int .i64 b, .int .i64 k, .int .i64 c, .int .i64 l, .bool f, .slice (some ⟨z, 0, none⟩) q q] rfl rfl (World.news_of_block (heap_alloc_new w6 _)) (oneCells6 b k c l f _ q q) (by omega) (by unfold maxLen; omega) (by omega) (by have := HK6.out.size; simp; omega) (w6.heap.size + 1) (by simp) ?_; intro g cap w7 hown hgrow hat hltg; have HADD := (show Hid (ObjsAt w1 w7 (some ⟨g, 0, none⟩) (j + 1) cap (vs ++ [⟨⟨b, k, c, l, f, wordsL ws b l⟩, z⟩]) ∧ Keep [] w1 w7) from ⟨HO6.out.added (o := ⟨b, k, c, l, f, wordsL ws b l⟩) HZ.out.1 HZ.out.2.1 HZ.out.2.2 (by unfold OV.cells; rw [HL.out]; exact hown) hgrow hat, HO6.out.grow HK6.out hgrow⟩); clear hown hgrow hat hltg) | (go_simp; refine (owords b q l _ (HR.out.keep0 HK5.out) HQ.out hl3 hwl hbb).mono ?_; rintro e w6 ⟨z, rfl, hRz, hK6, hzz⟩; have hx6 := hK6.blk hx5 (by simp); obtain ⟨p0, p1, p2, p3⟩ := four_cells hx6; have HO6 := (show Hid (ObjsAt w1 w6 va j vc vs) from HO5.out.keep hK6 (by simp)); have HK6 := (show Hid (Keep [] w1 w6) from HK5b.out.trans hK6); have HZ := (show Hid (Row w6 3 z (wordsL ws b l) ∧ w1.heap.size ≤ z ∧ ∀ a, va = some a → a.block ≠ z) from ⟨hRz, by have := HK5b.out.size; omega, fun a e => by have := HO5.out.far a e; omega⟩); clear hRz hzz))
      all_goals (go_wp2_with fail)
      all_goals go_roundw
      all_goals first
        | exact ⟨j + 1, _, _, _, rfl, by go_num, by omega, HADD.out.1, (by show _ = _; rw [HNX.out, List.map_append, HM.out]; rfl), HADD.out.2⟩
        | (simp [intOf]; omega)
    · obtain rfl : j = n := by omega
      have HMM := (show Hid (vs.map OV.o = objsK kd ws) from by
        show _ = _
        rw [HM.out, List.take_of_length_le (by rw [objsK_length, HN.out]; omega)])
      go_wp2_with fail
      go_ret
      exact ⟨va, vc, vs, rfl, HO.out.base hK1.size, HMM.out, hKw⟩
end

end Go.Proofs.Ytdpaffnpedcmpab
