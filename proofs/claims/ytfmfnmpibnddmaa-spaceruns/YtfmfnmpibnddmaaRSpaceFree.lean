/-
  Free of the document's own space.
-/
import Derived.Test.YtfmfnmpibnddmaaRSpaceFind
import Derived.Test.YtfmfnmpibnddmaaRefBits
namespace Go.Proofs.Ytfmfnmpibnddmaa
open Go.RowKit

set_option maxHeartbeats 2000000 in
theorem rfree_none (mb : Nat) (a : Int) (w : World) (o : Option (Nat × Nat)) (hf : Calls Try.prog 25 #[.pointer (some ⟨mb, 0, none⟩), .int .i64 a] w fun e w' => e = .returned (foundA o) ∧ Keep [] w w') (ho : ∀ s n, o = some (s, n) → (s : Int) ≠ a) :
    Calls Try.prog 17 #[.pointer (some ⟨mb, 0, none⟩), .int .i64 a] w fun e w' => e = .returned (.int .i64 2) ∧ Keep [] w w' := by
  cases o with
  | none =>
    have HF := (show Hid (Calls Try.prog 25 #[.pointer (some ⟨mb, 0, none⟩), .int .i64 a] w fun e w' => e = .returned (.agg #[.int .i64 0, .int .i64 0, .bool false]) ∧ Keep [] w w') from hf)
    clear ho hf
    go_enter Try.func17, Try.ntmps17
    go_wp2_with (go_at_call 25; refine HF.out.mono ?_; rintro e w1 ⟨rfl, hK1⟩)
    go_ret
    exact ⟨rfl, hK1.trans (Keep.alloc [] _ _)⟩
  | some o =>
    obtain ⟨s, n⟩ := o
    have HF := (show Hid (Calls Try.prog 25 #[.pointer (some ⟨mb, 0, none⟩), .int .i64 a] w fun e w' => e = .returned (.agg #[.int .i64 s, .int .i64 n, .bool true]) ∧ Keep [] w w') from hf)
    have hne := ho s n rfl
    have hd : decide ((s : Int) = a) = false := by rw [decide_eq_false_iff_not]; exact hne
    clear ho hf
    go_enter Try.func17, Try.ntmps17
    go_wp2_with (go_at_call 25; refine HF.out.mono ?_; rintro e w1 ⟨rfl, hK1⟩)
    go_ret
    exact ⟨rfl, hK1.trans (Keep.alloc [] _ _)⟩

/-- The kinds of pages that are freed one behind the other. -/
def unkind (ks : List Int) (p m : Nat) : List Int := fill0 ks p m
theorem kind_free (kd : List PK) (p k : Nat) (h : p + k ≤ kd.length) : unkind (kindL kd) p k = kindL (freeParts kd p k) := by
  unfold unkind
  refine eq_of_getD (by rw [fill0_length _ _ _ (by rw [kindL_length]; exact h), kindL_length, kindL_length, freeParts_length]) (fun t => ?_)
  rw [fill0_get _ _ _ _ (by rw [kindL_length]; exact h), kindL_get, kindL_get, freeParts_at]
  split <;> rfl

set_option maxHeartbeats 4000000 in
theorem rfree_large (mb a p k : Nat) (L : RLay) (F : List Nat) (ws : List Int) (kd : List PK) (w : World) (h : RpAt w mb L F ws (kindL kd) (bigL kd) kd) (hw : WF kd) (hk : kat kd p = .part 0 k) (hp : a / 64 = p) (hab : a ≤ 20000)
    (hf : Calls Try.prog 25 #[.pointer (some ⟨mb, 0, none⟩), .int .i64 a] w fun e w' => e = .returned (foundA (some (a, 64 * k))) ∧ Keep [] w w') :
    Calls Try.prog 17 #[.pointer (some ⟨mb, 0, none⟩), .int .i64 a] w fun e w' => e = .returned (.int .i64 0) ∧ RpAt w' mb L F ws (kindL (freeParts kd p k)) (bigL (freeParts kd p k)) (freeParts kd p k) ∧ Keep F w w' := by
  have HF := (show Hid (Calls Try.prog 25 #[.pointer (some ⟨mb, 0, none⟩), .int .i64 a] w fun e w' => e = .returned (.agg #[.int .i64 a, .int .i64 ((64 * k : Nat) : Int), .bool true]) ∧ Keep [] w w') from hf)
  obtain ⟨g1, g2, g3, g4⟩ := hw.part p 0 k hk
  obtain ⟨m1, m2, m3⟩ := hw.part0 hk
  rw [Nat.sub_zero] at g4 m1 m2
  have HB := (show Hid (bigL (freeParts kd p k) = (bigL kd).set p 0) from big_free kd p k g1 g4)
  have HKD := (show Hid (unkind (kindL kd) p k = kindL (freeParts kd p k)) from kind_free kd p k m2)
  have HS := (show Hid (∀ q, kat (freeParts kd p k) q = kat kd q ∨ (∀ c xs, kat (freeParts kd p k) q ≠ .small c xs) ∧ (∀ c xs, kat kd q ≠ .small c xs)) from fun q => by
    rw [freeParts_at]
    by_cases e : p ≤ q ∧ q < p + k
    · right
      have := g4 (q - p) (by omega)
      rw [show p + (q - p) = q by omega] at this
      rw [if_pos e, this]; simp
    · left; rw [if_neg e])
  have HM := (show Hid (RpAt w mb L F ws (kindL kd) (bigL kd) kd) from h)
  have HKK := (show Hid (kat kd p = .part 0 k) from hk)
  obtain ⟨n, hn⟩ : ∃ n, kd.length = n := ⟨_, rfl⟩
  have HN := (show Hid (kd.length = n) from hn)
  have hn2 : n ≤ 256 := by rw [← hn]; exact hw.len2
  rw [hn] at m2 m3
  have h1 : (a : Int) / 64 = p := by omega
  have h2 : (a : Int).tdiv 64 = p := by rw [Int.tdiv_eq_ediv_of_nonneg (by omega)]; exact h1
  obtain ⟨z, hz⟩ : ∃ z, p + k = z := ⟨_, rfl⟩
  have hzi : (p : Int) + k = z := by omega
  have hzn : z ≤ n := by omega
  obtain ⟨k64, hk64⟩ : ∃ k64 : Nat, 64 * k = k64 := ⟨_, rfl⟩
  rw [hk64] at HF
  have f := h.f
  clear hf h hk hn g4 hw
  go_enter Try.func17, Try.ntmps17
  go_wp2_with fail
  refine HF.out.mono ?_
  rintro e w1 ⟨rfl, hK1⟩
  have hKa := hK1.trans (Keep.alloc [] w1 (.cells #[.int .i64 (a : Int), .int .i64 (k64 : Int), .bool true] 56))
  have hM1 := HM.out.keep0 hKa
  have c1 := hM1.c1
  have c2 := hM1.c2
  rw [HN.out] at c1 c2
  have ck : (w1.alloc (.cells #[.int .i64 (a : Int), .int .i64 (k64 : Int), .bool true] 56)).cell? ⟨L.gk, p, none⟩ = some (.int .i64 6) := by
    have := hM1.ck (p := p) (by rw [HN.out]; exact m3)
    rw [kindL_get, HKK.out] at this; exact this
  have cm : (w1.alloc (.cells #[.int .i64 (a : Int), .int .i64 (k64 : Int), .bool true] 56)).cell? ⟨L.gm, p, none⟩ = some (.int .i64 k) := by
    have := hM1.cm (p := p) (by rw [HN.out]; exact m3)
    rw [bigL_get, HKK.out] at this; exact this
  go_wp2_with fail
  generalize w1.alloc (.cells #[.int .i64 (a : Int), .int .i64 (k64 : Int), .bool true] 56) = w2 at *
  clear c1 c2 ck cm
  go_loopw [8] (fun i wr => ∃ j : Nat, i = .int .i64 j ∧ p ≤ j ∧ j ≤ z ∧ RpAt wr mb L F ws (unkind (kindL kd) p (j - p)) (bigL kd) kd ∧ Keep F w wr) (fun i _ => z - (intOf i).toNat)
  case atStart => exact ⟨p, rfl, by omega, by omega, by unfold unkind; rw [Nat.sub_self, fill0_zero]; exact hM1, hKa.mono (by simp)⟩
  case round =>
    obtain ⟨j, rfl, hj1, hj2, hR, hK⟩ := hrel
    obtain ⟨w3, rfl⟩ : ∃ w3, w3 = wr := ⟨_, rfl⟩
    clear hM1
    by_cases hlt : j < z
    · have c1 := hR.c1
      rw [HN.out] at c1
      have ck := hR.ck (p := j) (by rw [HN.out]; omega)
      have fk := hR.rowK.free j
      have hR2 := hR.setK j 0
      have e : (unkind (kindL kd) p (j - p)).set j 0 = unkind (kindL kd) p (j + 1 - p) := by
        have := fill0_step (kindL kd) p (j - p) (by rw [kindL_length, HN.out]; omega)
        rw [show p + (j - p) = j by omega] at this
        unfold unkind
        rw [this, show j - p + 1 = j + 1 - p by omega]
      rw [e] at hR2
      have HR2 := (show Hid (RpAt (w3.setCell ⟨L.gk, j, none⟩ (.int .i64 0)) mb L F ws (unkind (kindL kd) p (j + 1 - p)) (bigL kd) kd) from hR2)
      have HK2 := (show Hid (Keep F w (w3.setCell ⟨L.gk, j, none⟩ (.int .i64 0))) from hK.trans (Keep.setCell _ _ f.2.2.1))
      clear hR hR2 e hK
      go_wp2
      go_roundw
      case rel => exact ⟨j + 1, by go_num, by omega, by omega, HR2.out, HK2.out⟩
      case measure => simp [intOf]; omega
    · obtain rfl : j = z := by omega
      rw [show j - p = k by omega, HKD.out] at hR
      have c2 := hR.c2
      rw [HN.out] at c2
      have cm := hR.cm (p := p) (by rw [HN.out]; exact m3)
      have fm := hR.rowM.free p
      have hR2 := (hR.setM p 0).other (freeParts_length kd p k) HS.out
      rw [← HB.out] at hR2
      have HR2 := (show Hid (RpAt (w3.setCell ⟨L.gm, p, none⟩ (.int .i64 0)) mb L F ws (kindL (freeParts kd p k)) (bigL (freeParts kd p k)) (freeParts kd p k)) from hR2)
      have HK2 := (show Hid (Keep F w (w3.setCell ⟨L.gm, p, none⟩ (.int .i64 0))) from hK.trans (Keep.setCell _ _ f.2.2.2.1))
      clear hR hR2 hK
      go_wp2
      go_ret
      exact ⟨rfl, HR2.out, HK2.out⟩

theorem kind_same {kd : List PK} {p c : Nat} {xs ys : List Bool} (hk : kat kd p = .small c xs) : kindL (kd.set p (.small c ys)) = kindL kd := by
  have hp := kat_lt kd p (by rw [hk]; simp)
  refine eq_of_getD (by simp [kindL]) (fun t => ?_)
  rw [kindL_get, kindL_get, kat_set _ _ _ _ hp]
  split
  · rename_i e; subst e; rw [hk]; rfl
  · rfl
theorem big_same {kd : List PK} {p c : Nat} {xs : List Bool} {x : PK} (hk : kat kd p = .small c xs) (hx : x.big = 0) : bigL (kd.set p x) = bigL kd := by
  have hp := kat_lt kd p (by rw [hk]; simp)
  refine eq_of_getD (by simp [bigL]) (fun t => ?_)
  rw [bigL_get, bigL_get, kat_set _ _ _ _ hp]
  split
  · rename_i e; subst e; rw [hk, hx]; rfl
  · rfl

set_option maxHeartbeats 8000000 in
theorem rfree_small2 (mb a p c i r : Nat) (xs : List Bool) (L : RLay) (F : List Nat) (ws : List Int) (kd kd' : List PK) (w : World) (h : RpAt w mb L F ws (kindL kd) (bigL kd) kd) (hw : WF kd) (hk : kat kd p = .small c xs) (hc : c < 5) (hp : a / 64 = p) (hr : a % 64 = r) (hi : r / 2 = i) (hil : i < xs.length) (hxl : xs.length ≤ 32) (hab : a ≤ 20000)
    (hd : noneB (xs.set i false) = false ∧ kd' = kd.set p (.small c (xs.set i false)) ∨ noneB (xs.set i false) = true ∧ kd' = kd.set p .free)
    (hf : Calls Try.prog 25 #[.pointer (some ⟨mb, 0, none⟩), .int .i64 a] w fun e w' => e = .returned (foundA (some (a, 2))) ∧ Keep [] w w') :
    Calls Try.prog 17 #[.pointer (some ⟨mb, 0, none⟩), .int .i64 a] w fun e w' => e = .returned (.int .i64 0) ∧ RpAt w' mb L F ws (kindL kd') (bigL kd') kd' ∧ Keep F w w' := by
  have HF := (show Hid (Calls Try.prog 25 #[.pointer (some ⟨mb, 0, none⟩), .int .i64 a] w fun e w' => e = .returned (.agg #[.int .i64 a, .int .i64 2, .bool true]) ∧ Keep [] w w') from hf)
  have HM := (show Hid (RpAt w mb L F ws (kindL kd) (bigL kd) kd) from h)
  have HKK := (show Hid (kat kd p = .small c xs) from hk)
  have HPL := (show Hid (p < kd.length) from kat_lt kd p (by rw [hk]; simp))
  obtain ⟨n, hn⟩ : ∃ n, kd.length = n := ⟨_, rfl⟩
  have HN := (show Hid (kd.length = n) from hn)
  have hn2 : n ≤ 256 := by rw [← hn]; exact hw.len2
  have m3 : p < n := by rw [← hn]; exact HPL.out
  have h1 : (a : Int) / 64 = p := by omega
  have h2 : (a : Int).tdiv 64 = p := by rw [Int.tdiv_eq_ediv_of_nonneg (by omega)]; exact h1
  have h3 : (a : Int) % 64 = r := by omega
  have h4 : (a : Int).tmod 64 = r := by rw [Int.tmod_eq_emod_of_nonneg (by omega)]; exact h3
  have hcc : (c : Int) + 1 ≠ 6 := by omega
  have hd6 : decide ((c : Int) + 1 = 6) = false := by rw [decide_eq_false_iff_not]; exact hcc
  obtain ⟨xl, hxl2⟩ : ∃ xl, xs.length = xl := ⟨_, rfl⟩
  have HXL := (show Hid (xs.length = xl) from hxl2)
  have HIL := (show Hid (i < xs.length) from hil)
  rw [hxl2] at hil hxl
  have hib0 : (0 : Int) ≤ (i : Int) := by omega
  have hib1 : (i : Int) < (xl : Int) := by omega
  have f := h.f
  have ffp := h.fp p c xs hk
  have HD := (show Hid (noneB (xs.set i false) = false ∧ kd' = kd.set p (.small c (xs.set i false)) ∨ noneB (xs.set i false) = true ∧ kd' = kd.set p .free) from hd)
  have hTm : L.T p ≠ mb := ne_role (h.rp p c xs hk) h.r0 (by omega)
  have hTt : L.T p ≠ L.gt := ne_role (h.rp p c xs hk) h.r4 (by omega)
  have hlF := h.lt
  clear hf h hk hn hd hp hr hw hxl2
  have h5 : (r : Int) / 2 = i := by rw [← hi]; rfl
  have h6 : (r : Int).tdiv 2 = i := by rw [Int.tdiv_eq_ediv_of_nonneg (by omega)]; exact h5
  have hw1 : IntKind.i64.wrap ((r : Int).tdiv 2) = i := by rw [h6]; exact IntWalk.i64_in _ (by omega)
  have hw2 : IntKind.i64.wrap ((r : Int) / 2) = i := by rw [h5]; exact IntWalk.i64_in _ (by omega)
  have hw3 : IntKind.i64.wrap (i : Int) = i := IntWalk.i64_in _ (by omega)
  have hib2 : (i : Int) ≤ (xl : Int) := by omega
  clear hi
  go_enter Try.func17, Try.ntmps17
  go_wp2_with fail
  refine HF.out.mono ?_
  rintro e w1 ⟨rfl, hK1⟩
  have hKa := hK1.trans (Keep.alloc [] w1 (.cells #[.int .i64 (a : Int), .int .i64 2, .bool true] 56))
  have hM1 := HM.out.keep0 hKa
  have c1 := hM1.c1
  have c3 := hM1.c3
  rw [HN.out] at c1 c3
  have ck : (w1.alloc (.cells #[.int .i64 (a : Int), .int .i64 2, .bool true] 56)).cell? ⟨L.gk, p, none⟩ = some (.int .i64 ((c : Int) + 1)) := by
    have := hM1.ck (p := p) HPL.out
    rw [kindL_get, HKK.out] at this; exact this
  have ct : (w1.alloc (.cells #[.int .i64 (a : Int), .int .i64 2, .bool true] 56)).cell? ⟨L.gt, p, none⟩ = some (.slice (some ⟨L.T p, 0, none⟩) xl xl) := by
    have := hM1.ct (p := p) HPL.out
    rw [HKK.out] at this
    rw [← HXL.out]; exact this
  have hbx := heap_alloc_new w1 (.cells #[.int .i64 (a : Int), .int .i64 2, .bool true] 56)
  have cx := (hM1.page p c xs HKK.out).cell HIL.out
  have fx := (hM1.page p c xs HKK.out).free i
  have hsz1 := hK1.size
  go_wp2_with fail
  obtain ⟨bx, hbxe⟩ : ∃ bx, w1.heap.size = bx := ⟨_, rfl⟩
  rw [hbxe] at hbx hsz1 ⊢
  generalize w1.alloc (.cells #[.int .i64 (a : Int), .int .i64 2, .bool true] 56) = w2 at *
  have cb : w2.cell? ⟨bx, 1, none⟩ = some (.int .i64 2) := by simp [World.cell?, hbx]
  have hTb : L.T p ≠ bx := by have := hlF _ ffp; omega
  clear hK1 hbxe
  go_region_held3 (fun wz => wz.cell? ⟨mb, 3, none⟩ = some (.slice (some ⟨L.gt, 0, none⟩) n n) ∧ wz.cell? ⟨L.gt, p, none⟩ = some (.slice (some ⟨L.T p, 0, none⟩) xl xl) ∧ wz.cell? ⟨bx, 1, none⟩ = some (.int .i64 2)) (go_keep) (first | (fail))
  have hS2 := (hM1.inner (i := i) (b := false) HKK.out).keep0 (Keep.drew [] _)
  have HKb := (show Hid (Keep F w ((w2.setCell ⟨L.T p, i, none⟩ (.bool false)).drew)) from ((hKa.mono (by simp)).trans (Keep.setCell _ _ ffp)).trans (Keep.drew F _))
  have c3b := hS2.c3
  rw [List.length_set, HN.out] at c3b
  have ctb : (w2.setCell ⟨L.T p, i, none⟩ (.bool false)).drew.cell? ⟨L.gt, p, none⟩ = some (.slice (some ⟨L.T p, 0, none⟩) xl xl) := by
    have := hS2.ct (p := p) (by rw [List.length_set]; exact HPL.out)
    rw [kat_set_same _ _ _ HPL.out] at this
    have e : (xs.set i false).length = xl := by rw [List.length_set]; exact HXL.out
    rw [← e]; exact this
  have hBR := hS2.page p c (xs.set i false) (kat_set_same _ _ _ HPL.out)
  generalize (w2.setCell ⟨L.T p, i, none⟩ (.bool false)).drew = w4 at *
  have HYL := (show Hid ((xs.set i false).length = xl) from by show _ = _; rw [List.length_set]; exact HXL.out)
  have HNC := (show Hid (noneB (xs.set i false) = decide ((cntA (xs.set i false) : Int) = 0)) from none_count _)
  have HS2 := (show Hid (RpAt w4 mb L F ws (kindL kd) (bigL kd) (kd.set p (.small c (xs.set i false)))) from hS2)
  have c1b := hS2.c1
  rw [List.length_set, HN.out] at c1b
  have ckb := hS2.ck (p := p) (by rw [List.length_set]; exact HPL.out)
  have fkb := hS2.rowK.free p
  have hkat := kat_set_same kd p (.small c (xs.set i false)) HPL.out
  have hS5 := (hS2.setK p 0).drop hkat
  have hTd := (hS2.setK p 0).c3
  rw [List.length_set, HN.out] at hTd
  have hTe := (hS2.setK p 0).ct (p := p) (by rw [List.length_set]; exact HPL.out)
  have hTf := (hS2.setK p 0).ft p
  have HS5 := (show Hid (RpAt ((w4.setCell ⟨L.gk, p, none⟩ (.int .i64 0)).setCell ⟨L.gt, p, none⟩ (.slice none 0 0)) mb L F ws ((kindL kd).set p 0) (bigL kd) (kd.set p .free)) from by
    have := hS5
    rw [List.set_set] at this
    exact this)
  clear hS2 hS5 hM1 c1 c3 ck ct cx fx cb
  generalize hys : xs.set i false = ys at *
  go_wp2_with fail
  refine (rcount_any (L.T p) xl xl ys w4 hBR HYL.out (by omega)).mono ?_
  rintro e w' ⟨rfl, rfl⟩
  obtain ⟨cy, hcy⟩ : ∃ cy, cntA ys = cy := ⟨_, rfl⟩
  rw [hcy]
  rw [hcy] at HNC
  rcases HD.out with ⟨hno, rfl⟩ | ⟨hno, rfl⟩
  · have hcy0 : decide ((cy : Int) = 0) = false := by rw [← HNC.out]; exact hno
    have hcyn : (cy : Int) ≠ 0 := by simpa using hcy0
    go_wp2_with fail
    go_ret
    refine ⟨rfl, ?_, HKb.out⟩
    rw [kind_same HKK.out, big_same HKK.out rfl]
    exact HS2.out
  · have hcy0 : decide ((cy : Int) = 0) = true := by rw [← HNC.out]; exact hno
    have hcyn : (cy : Int) = 0 := by simpa using hcy0
    have HKc := (show Hid (Keep F w ((w4.setCell ⟨L.gk, p, none⟩ (.int .i64 0)).setCell ⟨L.gt, p, none⟩ (.slice none 0 0))) from (HKb.out.trans (Keep.setCell _ _ f.2.2.1)).trans (Keep.setCell _ _ f.2.2.2.2))
    go_wp2_with fail
    go_ret
    refine ⟨rfl, ?_, HKc.out⟩
    rw [show kindL (kd.set p .free) = (kindL kd).set p 0 by simp [kindL, List.map_set, PK.kind], big_same HKK.out rfl]
    exact HS5.out
set_option maxHeartbeats 8000000 in
theorem rfree_small4 (mb a p c i r : Nat) (xs : List Bool) (L : RLay) (F : List Nat) (ws : List Int) (kd kd' : List PK) (w : World) (h : RpAt w mb L F ws (kindL kd) (bigL kd) kd) (hw : WF kd) (hk : kat kd p = .small c xs) (hc : c < 5) (hp : a / 64 = p) (hr : a % 64 = r) (hi : r / 4 = i) (hil : i < xs.length) (hxl : xs.length ≤ 32) (hab : a ≤ 20000)
    (hd : noneB (xs.set i false) = false ∧ kd' = kd.set p (.small c (xs.set i false)) ∨ noneB (xs.set i false) = true ∧ kd' = kd.set p .free)
    (hf : Calls Try.prog 25 #[.pointer (some ⟨mb, 0, none⟩), .int .i64 a] w fun e w' => e = .returned (foundA (some (a, 4))) ∧ Keep [] w w') :
    Calls Try.prog 17 #[.pointer (some ⟨mb, 0, none⟩), .int .i64 a] w fun e w' => e = .returned (.int .i64 0) ∧ RpAt w' mb L F ws (kindL kd') (bigL kd') kd' ∧ Keep F w w' := by
  have HF := (show Hid (Calls Try.prog 25 #[.pointer (some ⟨mb, 0, none⟩), .int .i64 a] w fun e w' => e = .returned (.agg #[.int .i64 a, .int .i64 4, .bool true]) ∧ Keep [] w w') from hf)
  have HM := (show Hid (RpAt w mb L F ws (kindL kd) (bigL kd) kd) from h)
  have HKK := (show Hid (kat kd p = .small c xs) from hk)
  have HPL := (show Hid (p < kd.length) from kat_lt kd p (by rw [hk]; simp))
  obtain ⟨n, hn⟩ : ∃ n, kd.length = n := ⟨_, rfl⟩
  have HN := (show Hid (kd.length = n) from hn)
  have hn2 : n ≤ 256 := by rw [← hn]; exact hw.len2
  have m3 : p < n := by rw [← hn]; exact HPL.out
  have h1 : (a : Int) / 64 = p := by omega
  have h2 : (a : Int).tdiv 64 = p := by rw [Int.tdiv_eq_ediv_of_nonneg (by omega)]; exact h1
  have h3 : (a : Int) % 64 = r := by omega
  have h4 : (a : Int).tmod 64 = r := by rw [Int.tmod_eq_emod_of_nonneg (by omega)]; exact h3
  have hcc : (c : Int) + 1 ≠ 6 := by omega
  have hd6 : decide ((c : Int) + 1 = 6) = false := by rw [decide_eq_false_iff_not]; exact hcc
  obtain ⟨xl, hxl2⟩ : ∃ xl, xs.length = xl := ⟨_, rfl⟩
  have HXL := (show Hid (xs.length = xl) from hxl2)
  have HIL := (show Hid (i < xs.length) from hil)
  rw [hxl2] at hil hxl
  have hib0 : (0 : Int) ≤ (i : Int) := by omega
  have hib1 : (i : Int) < (xl : Int) := by omega
  have f := h.f
  have ffp := h.fp p c xs hk
  have HD := (show Hid (noneB (xs.set i false) = false ∧ kd' = kd.set p (.small c (xs.set i false)) ∨ noneB (xs.set i false) = true ∧ kd' = kd.set p .free) from hd)
  have hTm : L.T p ≠ mb := ne_role (h.rp p c xs hk) h.r0 (by omega)
  have hTt : L.T p ≠ L.gt := ne_role (h.rp p c xs hk) h.r4 (by omega)
  have hlF := h.lt
  clear hf h hk hn hd hp hr hw hxl2
  have h5 : (r : Int) / 4 = i := by rw [← hi]; rfl
  have h6 : (r : Int).tdiv 4 = i := by rw [Int.tdiv_eq_ediv_of_nonneg (by omega)]; exact h5
  have hw1 : IntKind.i64.wrap ((r : Int).tdiv 4) = i := by rw [h6]; exact IntWalk.i64_in _ (by omega)
  have hw2 : IntKind.i64.wrap ((r : Int) / 4) = i := by rw [h5]; exact IntWalk.i64_in _ (by omega)
  have hw3 : IntKind.i64.wrap (i : Int) = i := IntWalk.i64_in _ (by omega)
  have hib2 : (i : Int) ≤ (xl : Int) := by omega
  clear hi
  go_enter Try.func17, Try.ntmps17
  go_wp2_with fail
  refine HF.out.mono ?_
  rintro e w1 ⟨rfl, hK1⟩
  have hKa := hK1.trans (Keep.alloc [] w1 (.cells #[.int .i64 (a : Int), .int .i64 4, .bool true] 56))
  have hM1 := HM.out.keep0 hKa
  have c1 := hM1.c1
  have c3 := hM1.c3
  rw [HN.out] at c1 c3
  have ck : (w1.alloc (.cells #[.int .i64 (a : Int), .int .i64 4, .bool true] 56)).cell? ⟨L.gk, p, none⟩ = some (.int .i64 ((c : Int) + 1)) := by
    have := hM1.ck (p := p) HPL.out
    rw [kindL_get, HKK.out] at this; exact this
  have ct : (w1.alloc (.cells #[.int .i64 (a : Int), .int .i64 4, .bool true] 56)).cell? ⟨L.gt, p, none⟩ = some (.slice (some ⟨L.T p, 0, none⟩) xl xl) := by
    have := hM1.ct (p := p) HPL.out
    rw [HKK.out] at this
    rw [← HXL.out]; exact this
  have hbx := heap_alloc_new w1 (.cells #[.int .i64 (a : Int), .int .i64 4, .bool true] 56)
  have cx := (hM1.page p c xs HKK.out).cell HIL.out
  have fx := (hM1.page p c xs HKK.out).free i
  have hsz1 := hK1.size
  go_wp2_with fail
  obtain ⟨bx, hbxe⟩ : ∃ bx, w1.heap.size = bx := ⟨_, rfl⟩
  rw [hbxe] at hbx hsz1 ⊢
  generalize w1.alloc (.cells #[.int .i64 (a : Int), .int .i64 4, .bool true] 56) = w2 at *
  have cb : w2.cell? ⟨bx, 1, none⟩ = some (.int .i64 4) := by simp [World.cell?, hbx]
  have hTb : L.T p ≠ bx := by have := hlF _ ffp; omega
  clear hK1 hbxe
  go_region_held3 (fun wz => wz.cell? ⟨mb, 3, none⟩ = some (.slice (some ⟨L.gt, 0, none⟩) n n) ∧ wz.cell? ⟨L.gt, p, none⟩ = some (.slice (some ⟨L.T p, 0, none⟩) xl xl) ∧ wz.cell? ⟨bx, 1, none⟩ = some (.int .i64 4)) (go_keep) (first | (fail))
  have hS2 := (hM1.inner (i := i) (b := false) HKK.out).keep0 (Keep.drew [] _)
  have HKb := (show Hid (Keep F w ((w2.setCell ⟨L.T p, i, none⟩ (.bool false)).drew)) from ((hKa.mono (by simp)).trans (Keep.setCell _ _ ffp)).trans (Keep.drew F _))
  have c3b := hS2.c3
  rw [List.length_set, HN.out] at c3b
  have ctb : (w2.setCell ⟨L.T p, i, none⟩ (.bool false)).drew.cell? ⟨L.gt, p, none⟩ = some (.slice (some ⟨L.T p, 0, none⟩) xl xl) := by
    have := hS2.ct (p := p) (by rw [List.length_set]; exact HPL.out)
    rw [kat_set_same _ _ _ HPL.out] at this
    have e : (xs.set i false).length = xl := by rw [List.length_set]; exact HXL.out
    rw [← e]; exact this
  have hBR := hS2.page p c (xs.set i false) (kat_set_same _ _ _ HPL.out)
  generalize (w2.setCell ⟨L.T p, i, none⟩ (.bool false)).drew = w4 at *
  have HYL := (show Hid ((xs.set i false).length = xl) from by show _ = _; rw [List.length_set]; exact HXL.out)
  have HNC := (show Hid (noneB (xs.set i false) = decide ((cntA (xs.set i false) : Int) = 0)) from none_count _)
  have HS2 := (show Hid (RpAt w4 mb L F ws (kindL kd) (bigL kd) (kd.set p (.small c (xs.set i false)))) from hS2)
  have c1b := hS2.c1
  rw [List.length_set, HN.out] at c1b
  have ckb := hS2.ck (p := p) (by rw [List.length_set]; exact HPL.out)
  have fkb := hS2.rowK.free p
  have hkat := kat_set_same kd p (.small c (xs.set i false)) HPL.out
  have hS5 := (hS2.setK p 0).drop hkat
  have hTd := (hS2.setK p 0).c3
  rw [List.length_set, HN.out] at hTd
  have hTe := (hS2.setK p 0).ct (p := p) (by rw [List.length_set]; exact HPL.out)
  have hTf := (hS2.setK p 0).ft p
  have HS5 := (show Hid (RpAt ((w4.setCell ⟨L.gk, p, none⟩ (.int .i64 0)).setCell ⟨L.gt, p, none⟩ (.slice none 0 0)) mb L F ws ((kindL kd).set p 0) (bigL kd) (kd.set p .free)) from by
    have := hS5
    rw [List.set_set] at this
    exact this)
  clear hS2 hS5 hM1 c1 c3 ck ct cx fx cb
  generalize hys : xs.set i false = ys at *
  go_wp2_with fail
  refine (rcount_any (L.T p) xl xl ys w4 hBR HYL.out (by omega)).mono ?_
  rintro e w' ⟨rfl, rfl⟩
  obtain ⟨cy, hcy⟩ : ∃ cy, cntA ys = cy := ⟨_, rfl⟩
  rw [hcy]
  rw [hcy] at HNC
  rcases HD.out with ⟨hno, rfl⟩ | ⟨hno, rfl⟩
  · have hcy0 : decide ((cy : Int) = 0) = false := by rw [← HNC.out]; exact hno
    have hcyn : (cy : Int) ≠ 0 := by simpa using hcy0
    go_wp2_with fail
    go_ret
    refine ⟨rfl, ?_, HKb.out⟩
    rw [kind_same HKK.out, big_same HKK.out rfl]
    exact HS2.out
  · have hcy0 : decide ((cy : Int) = 0) = true := by rw [← HNC.out]; exact hno
    have hcyn : (cy : Int) = 0 := by simpa using hcy0
    have HKc := (show Hid (Keep F w ((w4.setCell ⟨L.gk, p, none⟩ (.int .i64 0)).setCell ⟨L.gt, p, none⟩ (.slice none 0 0))) from (HKb.out.trans (Keep.setCell _ _ f.2.2.1)).trans (Keep.setCell _ _ f.2.2.2.2))
    go_wp2_with fail
    go_ret
    refine ⟨rfl, ?_, HKc.out⟩
    rw [show kindL (kd.set p .free) = (kindL kd).set p 0 by simp [kindL, List.map_set, PK.kind], big_same HKK.out rfl]
    exact HS5.out
set_option maxHeartbeats 8000000 in
theorem rfree_small8 (mb a p c i r : Nat) (xs : List Bool) (L : RLay) (F : List Nat) (ws : List Int) (kd kd' : List PK) (w : World) (h : RpAt w mb L F ws (kindL kd) (bigL kd) kd) (hw : WF kd) (hk : kat kd p = .small c xs) (hc : c < 5) (hp : a / 64 = p) (hr : a % 64 = r) (hi : r / 8 = i) (hil : i < xs.length) (hxl : xs.length ≤ 32) (hab : a ≤ 20000)
    (hd : noneB (xs.set i false) = false ∧ kd' = kd.set p (.small c (xs.set i false)) ∨ noneB (xs.set i false) = true ∧ kd' = kd.set p .free)
    (hf : Calls Try.prog 25 #[.pointer (some ⟨mb, 0, none⟩), .int .i64 a] w fun e w' => e = .returned (foundA (some (a, 8))) ∧ Keep [] w w') :
    Calls Try.prog 17 #[.pointer (some ⟨mb, 0, none⟩), .int .i64 a] w fun e w' => e = .returned (.int .i64 0) ∧ RpAt w' mb L F ws (kindL kd') (bigL kd') kd' ∧ Keep F w w' := by
  have HF := (show Hid (Calls Try.prog 25 #[.pointer (some ⟨mb, 0, none⟩), .int .i64 a] w fun e w' => e = .returned (.agg #[.int .i64 a, .int .i64 8, .bool true]) ∧ Keep [] w w') from hf)
  have HM := (show Hid (RpAt w mb L F ws (kindL kd) (bigL kd) kd) from h)
  have HKK := (show Hid (kat kd p = .small c xs) from hk)
  have HPL := (show Hid (p < kd.length) from kat_lt kd p (by rw [hk]; simp))
  obtain ⟨n, hn⟩ : ∃ n, kd.length = n := ⟨_, rfl⟩
  have HN := (show Hid (kd.length = n) from hn)
  have hn2 : n ≤ 256 := by rw [← hn]; exact hw.len2
  have m3 : p < n := by rw [← hn]; exact HPL.out
  have h1 : (a : Int) / 64 = p := by omega
  have h2 : (a : Int).tdiv 64 = p := by rw [Int.tdiv_eq_ediv_of_nonneg (by omega)]; exact h1
  have h3 : (a : Int) % 64 = r := by omega
  have h4 : (a : Int).tmod 64 = r := by rw [Int.tmod_eq_emod_of_nonneg (by omega)]; exact h3
  have hcc : (c : Int) + 1 ≠ 6 := by omega
  have hd6 : decide ((c : Int) + 1 = 6) = false := by rw [decide_eq_false_iff_not]; exact hcc
  obtain ⟨xl, hxl2⟩ : ∃ xl, xs.length = xl := ⟨_, rfl⟩
  have HXL := (show Hid (xs.length = xl) from hxl2)
  have HIL := (show Hid (i < xs.length) from hil)
  rw [hxl2] at hil hxl
  have hib0 : (0 : Int) ≤ (i : Int) := by omega
  have hib1 : (i : Int) < (xl : Int) := by omega
  have f := h.f
  have ffp := h.fp p c xs hk
  have HD := (show Hid (noneB (xs.set i false) = false ∧ kd' = kd.set p (.small c (xs.set i false)) ∨ noneB (xs.set i false) = true ∧ kd' = kd.set p .free) from hd)
  have hTm : L.T p ≠ mb := ne_role (h.rp p c xs hk) h.r0 (by omega)
  have hTt : L.T p ≠ L.gt := ne_role (h.rp p c xs hk) h.r4 (by omega)
  have hlF := h.lt
  clear hf h hk hn hd hp hr hw hxl2
  have h5 : (r : Int) / 8 = i := by rw [← hi]; rfl
  have h6 : (r : Int).tdiv 8 = i := by rw [Int.tdiv_eq_ediv_of_nonneg (by omega)]; exact h5
  have hw1 : IntKind.i64.wrap ((r : Int).tdiv 8) = i := by rw [h6]; exact IntWalk.i64_in _ (by omega)
  have hw2 : IntKind.i64.wrap ((r : Int) / 8) = i := by rw [h5]; exact IntWalk.i64_in _ (by omega)
  have hw3 : IntKind.i64.wrap (i : Int) = i := IntWalk.i64_in _ (by omega)
  have hib2 : (i : Int) ≤ (xl : Int) := by omega
  clear hi
  go_enter Try.func17, Try.ntmps17
  go_wp2_with fail
  refine HF.out.mono ?_
  rintro e w1 ⟨rfl, hK1⟩
  have hKa := hK1.trans (Keep.alloc [] w1 (.cells #[.int .i64 (a : Int), .int .i64 8, .bool true] 56))
  have hM1 := HM.out.keep0 hKa
  have c1 := hM1.c1
  have c3 := hM1.c3
  rw [HN.out] at c1 c3
  have ck : (w1.alloc (.cells #[.int .i64 (a : Int), .int .i64 8, .bool true] 56)).cell? ⟨L.gk, p, none⟩ = some (.int .i64 ((c : Int) + 1)) := by
    have := hM1.ck (p := p) HPL.out
    rw [kindL_get, HKK.out] at this; exact this
  have ct : (w1.alloc (.cells #[.int .i64 (a : Int), .int .i64 8, .bool true] 56)).cell? ⟨L.gt, p, none⟩ = some (.slice (some ⟨L.T p, 0, none⟩) xl xl) := by
    have := hM1.ct (p := p) HPL.out
    rw [HKK.out] at this
    rw [← HXL.out]; exact this
  have hbx := heap_alloc_new w1 (.cells #[.int .i64 (a : Int), .int .i64 8, .bool true] 56)
  have cx := (hM1.page p c xs HKK.out).cell HIL.out
  have fx := (hM1.page p c xs HKK.out).free i
  have hsz1 := hK1.size
  go_wp2_with fail
  obtain ⟨bx, hbxe⟩ : ∃ bx, w1.heap.size = bx := ⟨_, rfl⟩
  rw [hbxe] at hbx hsz1 ⊢
  generalize w1.alloc (.cells #[.int .i64 (a : Int), .int .i64 8, .bool true] 56) = w2 at *
  have cb : w2.cell? ⟨bx, 1, none⟩ = some (.int .i64 8) := by simp [World.cell?, hbx]
  have hTb : L.T p ≠ bx := by have := hlF _ ffp; omega
  clear hK1 hbxe
  go_region_held3 (fun wz => wz.cell? ⟨mb, 3, none⟩ = some (.slice (some ⟨L.gt, 0, none⟩) n n) ∧ wz.cell? ⟨L.gt, p, none⟩ = some (.slice (some ⟨L.T p, 0, none⟩) xl xl) ∧ wz.cell? ⟨bx, 1, none⟩ = some (.int .i64 8)) (go_keep) (first | (fail))
  have hS2 := (hM1.inner (i := i) (b := false) HKK.out).keep0 (Keep.drew [] _)
  have HKb := (show Hid (Keep F w ((w2.setCell ⟨L.T p, i, none⟩ (.bool false)).drew)) from ((hKa.mono (by simp)).trans (Keep.setCell _ _ ffp)).trans (Keep.drew F _))
  have c3b := hS2.c3
  rw [List.length_set, HN.out] at c3b
  have ctb : (w2.setCell ⟨L.T p, i, none⟩ (.bool false)).drew.cell? ⟨L.gt, p, none⟩ = some (.slice (some ⟨L.T p, 0, none⟩) xl xl) := by
    have := hS2.ct (p := p) (by rw [List.length_set]; exact HPL.out)
    rw [kat_set_same _ _ _ HPL.out] at this
    have e : (xs.set i false).length = xl := by rw [List.length_set]; exact HXL.out
    rw [← e]; exact this
  have hBR := hS2.page p c (xs.set i false) (kat_set_same _ _ _ HPL.out)
  generalize (w2.setCell ⟨L.T p, i, none⟩ (.bool false)).drew = w4 at *
  have HYL := (show Hid ((xs.set i false).length = xl) from by show _ = _; rw [List.length_set]; exact HXL.out)
  have HNC := (show Hid (noneB (xs.set i false) = decide ((cntA (xs.set i false) : Int) = 0)) from none_count _)
  have HS2 := (show Hid (RpAt w4 mb L F ws (kindL kd) (bigL kd) (kd.set p (.small c (xs.set i false)))) from hS2)
  have c1b := hS2.c1
  rw [List.length_set, HN.out] at c1b
  have ckb := hS2.ck (p := p) (by rw [List.length_set]; exact HPL.out)
  have fkb := hS2.rowK.free p
  have hkat := kat_set_same kd p (.small c (xs.set i false)) HPL.out
  have hS5 := (hS2.setK p 0).drop hkat
  have hTd := (hS2.setK p 0).c3
  rw [List.length_set, HN.out] at hTd
  have hTe := (hS2.setK p 0).ct (p := p) (by rw [List.length_set]; exact HPL.out)
  have hTf := (hS2.setK p 0).ft p
  have HS5 := (show Hid (RpAt ((w4.setCell ⟨L.gk, p, none⟩ (.int .i64 0)).setCell ⟨L.gt, p, none⟩ (.slice none 0 0)) mb L F ws ((kindL kd).set p 0) (bigL kd) (kd.set p .free)) from by
    have := hS5
    rw [List.set_set] at this
    exact this)
  clear hS2 hS5 hM1 c1 c3 ck ct cx fx cb
  generalize hys : xs.set i false = ys at *
  go_wp2_with fail
  refine (rcount_any (L.T p) xl xl ys w4 hBR HYL.out (by omega)).mono ?_
  rintro e w' ⟨rfl, rfl⟩
  obtain ⟨cy, hcy⟩ : ∃ cy, cntA ys = cy := ⟨_, rfl⟩
  rw [hcy]
  rw [hcy] at HNC
  rcases HD.out with ⟨hno, rfl⟩ | ⟨hno, rfl⟩
  · have hcy0 : decide ((cy : Int) = 0) = false := by rw [← HNC.out]; exact hno
    have hcyn : (cy : Int) ≠ 0 := by simpa using hcy0
    go_wp2_with fail
    go_ret
    refine ⟨rfl, ?_, HKb.out⟩
    rw [kind_same HKK.out, big_same HKK.out rfl]
    exact HS2.out
  · have hcy0 : decide ((cy : Int) = 0) = true := by rw [← HNC.out]; exact hno
    have hcyn : (cy : Int) = 0 := by simpa using hcy0
    have HKc := (show Hid (Keep F w ((w4.setCell ⟨L.gk, p, none⟩ (.int .i64 0)).setCell ⟨L.gt, p, none⟩ (.slice none 0 0))) from (HKb.out.trans (Keep.setCell _ _ f.2.2.1)).trans (Keep.setCell _ _ f.2.2.2.2))
    go_wp2_with fail
    go_ret
    refine ⟨rfl, ?_, HKc.out⟩
    rw [show kindL (kd.set p .free) = (kindL kd).set p 0 by simp [kindL, List.map_set, PK.kind], big_same HKK.out rfl]
    exact HS5.out
set_option maxHeartbeats 8000000 in
theorem rfree_small16 (mb a p c i r : Nat) (xs : List Bool) (L : RLay) (F : List Nat) (ws : List Int) (kd kd' : List PK) (w : World) (h : RpAt w mb L F ws (kindL kd) (bigL kd) kd) (hw : WF kd) (hk : kat kd p = .small c xs) (hc : c < 5) (hp : a / 64 = p) (hr : a % 64 = r) (hi : r / 16 = i) (hil : i < xs.length) (hxl : xs.length ≤ 32) (hab : a ≤ 20000)
    (hd : noneB (xs.set i false) = false ∧ kd' = kd.set p (.small c (xs.set i false)) ∨ noneB (xs.set i false) = true ∧ kd' = kd.set p .free)
    (hf : Calls Try.prog 25 #[.pointer (some ⟨mb, 0, none⟩), .int .i64 a] w fun e w' => e = .returned (foundA (some (a, 16))) ∧ Keep [] w w') :
    Calls Try.prog 17 #[.pointer (some ⟨mb, 0, none⟩), .int .i64 a] w fun e w' => e = .returned (.int .i64 0) ∧ RpAt w' mb L F ws (kindL kd') (bigL kd') kd' ∧ Keep F w w' := by
  have HF := (show Hid (Calls Try.prog 25 #[.pointer (some ⟨mb, 0, none⟩), .int .i64 a] w fun e w' => e = .returned (.agg #[.int .i64 a, .int .i64 16, .bool true]) ∧ Keep [] w w') from hf)
  have HM := (show Hid (RpAt w mb L F ws (kindL kd) (bigL kd) kd) from h)
  have HKK := (show Hid (kat kd p = .small c xs) from hk)
  have HPL := (show Hid (p < kd.length) from kat_lt kd p (by rw [hk]; simp))
  obtain ⟨n, hn⟩ : ∃ n, kd.length = n := ⟨_, rfl⟩
  have HN := (show Hid (kd.length = n) from hn)
  have hn2 : n ≤ 256 := by rw [← hn]; exact hw.len2
  have m3 : p < n := by rw [← hn]; exact HPL.out
  have h1 : (a : Int) / 64 = p := by omega
  have h2 : (a : Int).tdiv 64 = p := by rw [Int.tdiv_eq_ediv_of_nonneg (by omega)]; exact h1
  have h3 : (a : Int) % 64 = r := by omega
  have h4 : (a : Int).tmod 64 = r := by rw [Int.tmod_eq_emod_of_nonneg (by omega)]; exact h3
  have hcc : (c : Int) + 1 ≠ 6 := by omega
  have hd6 : decide ((c : Int) + 1 = 6) = false := by rw [decide_eq_false_iff_not]; exact hcc
  obtain ⟨xl, hxl2⟩ : ∃ xl, xs.length = xl := ⟨_, rfl⟩
  have HXL := (show Hid (xs.length = xl) from hxl2)
  have HIL := (show Hid (i < xs.length) from hil)
  rw [hxl2] at hil hxl
  have hib0 : (0 : Int) ≤ (i : Int) := by omega
  have hib1 : (i : Int) < (xl : Int) := by omega
  have f := h.f
  have ffp := h.fp p c xs hk
  have HD := (show Hid (noneB (xs.set i false) = false ∧ kd' = kd.set p (.small c (xs.set i false)) ∨ noneB (xs.set i false) = true ∧ kd' = kd.set p .free) from hd)
  have hTm : L.T p ≠ mb := ne_role (h.rp p c xs hk) h.r0 (by omega)
  have hTt : L.T p ≠ L.gt := ne_role (h.rp p c xs hk) h.r4 (by omega)
  have hlF := h.lt
  clear hf h hk hn hd hp hr hw hxl2
  have h5 : (r : Int) / 16 = i := by rw [← hi]; rfl
  have h6 : (r : Int).tdiv 16 = i := by rw [Int.tdiv_eq_ediv_of_nonneg (by omega)]; exact h5
  have hw1 : IntKind.i64.wrap ((r : Int).tdiv 16) = i := by rw [h6]; exact IntWalk.i64_in _ (by omega)
  have hw2 : IntKind.i64.wrap ((r : Int) / 16) = i := by rw [h5]; exact IntWalk.i64_in _ (by omega)
  have hw3 : IntKind.i64.wrap (i : Int) = i := IntWalk.i64_in _ (by omega)
  have hib2 : (i : Int) ≤ (xl : Int) := by omega
  clear hi
  go_enter Try.func17, Try.ntmps17
  go_wp2_with fail
  refine HF.out.mono ?_
  rintro e w1 ⟨rfl, hK1⟩
  have hKa := hK1.trans (Keep.alloc [] w1 (.cells #[.int .i64 (a : Int), .int .i64 16, .bool true] 56))
  have hM1 := HM.out.keep0 hKa
  have c1 := hM1.c1
  have c3 := hM1.c3
  rw [HN.out] at c1 c3
  have ck : (w1.alloc (.cells #[.int .i64 (a : Int), .int .i64 16, .bool true] 56)).cell? ⟨L.gk, p, none⟩ = some (.int .i64 ((c : Int) + 1)) := by
    have := hM1.ck (p := p) HPL.out
    rw [kindL_get, HKK.out] at this; exact this
  have ct : (w1.alloc (.cells #[.int .i64 (a : Int), .int .i64 16, .bool true] 56)).cell? ⟨L.gt, p, none⟩ = some (.slice (some ⟨L.T p, 0, none⟩) xl xl) := by
    have := hM1.ct (p := p) HPL.out
    rw [HKK.out] at this
    rw [← HXL.out]; exact this
  have hbx := heap_alloc_new w1 (.cells #[.int .i64 (a : Int), .int .i64 16, .bool true] 56)
  have cx := (hM1.page p c xs HKK.out).cell HIL.out
  have fx := (hM1.page p c xs HKK.out).free i
  have hsz1 := hK1.size
  go_wp2_with fail
  obtain ⟨bx, hbxe⟩ : ∃ bx, w1.heap.size = bx := ⟨_, rfl⟩
  rw [hbxe] at hbx hsz1 ⊢
  generalize w1.alloc (.cells #[.int .i64 (a : Int), .int .i64 16, .bool true] 56) = w2 at *
  have cb : w2.cell? ⟨bx, 1, none⟩ = some (.int .i64 16) := by simp [World.cell?, hbx]
  have hTb : L.T p ≠ bx := by have := hlF _ ffp; omega
  clear hK1 hbxe
  go_region_held3 (fun wz => wz.cell? ⟨mb, 3, none⟩ = some (.slice (some ⟨L.gt, 0, none⟩) n n) ∧ wz.cell? ⟨L.gt, p, none⟩ = some (.slice (some ⟨L.T p, 0, none⟩) xl xl) ∧ wz.cell? ⟨bx, 1, none⟩ = some (.int .i64 16)) (go_keep) (first | (fail))
  have hS2 := (hM1.inner (i := i) (b := false) HKK.out).keep0 (Keep.drew [] _)
  have HKb := (show Hid (Keep F w ((w2.setCell ⟨L.T p, i, none⟩ (.bool false)).drew)) from ((hKa.mono (by simp)).trans (Keep.setCell _ _ ffp)).trans (Keep.drew F _))
  have c3b := hS2.c3
  rw [List.length_set, HN.out] at c3b
  have ctb : (w2.setCell ⟨L.T p, i, none⟩ (.bool false)).drew.cell? ⟨L.gt, p, none⟩ = some (.slice (some ⟨L.T p, 0, none⟩) xl xl) := by
    have := hS2.ct (p := p) (by rw [List.length_set]; exact HPL.out)
    rw [kat_set_same _ _ _ HPL.out] at this
    have e : (xs.set i false).length = xl := by rw [List.length_set]; exact HXL.out
    rw [← e]; exact this
  have hBR := hS2.page p c (xs.set i false) (kat_set_same _ _ _ HPL.out)
  generalize (w2.setCell ⟨L.T p, i, none⟩ (.bool false)).drew = w4 at *
  have HYL := (show Hid ((xs.set i false).length = xl) from by show _ = _; rw [List.length_set]; exact HXL.out)
  have HNC := (show Hid (noneB (xs.set i false) = decide ((cntA (xs.set i false) : Int) = 0)) from none_count _)
  have HS2 := (show Hid (RpAt w4 mb L F ws (kindL kd) (bigL kd) (kd.set p (.small c (xs.set i false)))) from hS2)
  have c1b := hS2.c1
  rw [List.length_set, HN.out] at c1b
  have ckb := hS2.ck (p := p) (by rw [List.length_set]; exact HPL.out)
  have fkb := hS2.rowK.free p
  have hkat := kat_set_same kd p (.small c (xs.set i false)) HPL.out
  have hS5 := (hS2.setK p 0).drop hkat
  have hTd := (hS2.setK p 0).c3
  rw [List.length_set, HN.out] at hTd
  have hTe := (hS2.setK p 0).ct (p := p) (by rw [List.length_set]; exact HPL.out)
  have hTf := (hS2.setK p 0).ft p
  have HS5 := (show Hid (RpAt ((w4.setCell ⟨L.gk, p, none⟩ (.int .i64 0)).setCell ⟨L.gt, p, none⟩ (.slice none 0 0)) mb L F ws ((kindL kd).set p 0) (bigL kd) (kd.set p .free)) from by
    have := hS5
    rw [List.set_set] at this
    exact this)
  clear hS2 hS5 hM1 c1 c3 ck ct cx fx cb
  generalize hys : xs.set i false = ys at *
  go_wp2_with fail
  refine (rcount_any (L.T p) xl xl ys w4 hBR HYL.out (by omega)).mono ?_
  rintro e w' ⟨rfl, rfl⟩
  obtain ⟨cy, hcy⟩ : ∃ cy, cntA ys = cy := ⟨_, rfl⟩
  rw [hcy]
  rw [hcy] at HNC
  rcases HD.out with ⟨hno, rfl⟩ | ⟨hno, rfl⟩
  · have hcy0 : decide ((cy : Int) = 0) = false := by rw [← HNC.out]; exact hno
    have hcyn : (cy : Int) ≠ 0 := by simpa using hcy0
    go_wp2_with fail
    go_ret
    refine ⟨rfl, ?_, HKb.out⟩
    rw [kind_same HKK.out, big_same HKK.out rfl]
    exact HS2.out
  · have hcy0 : decide ((cy : Int) = 0) = true := by rw [← HNC.out]; exact hno
    have hcyn : (cy : Int) = 0 := by simpa using hcy0
    have HKc := (show Hid (Keep F w ((w4.setCell ⟨L.gk, p, none⟩ (.int .i64 0)).setCell ⟨L.gt, p, none⟩ (.slice none 0 0))) from (HKb.out.trans (Keep.setCell _ _ f.2.2.1)).trans (Keep.setCell _ _ f.2.2.2.2))
    go_wp2_with fail
    go_ret
    refine ⟨rfl, ?_, HKc.out⟩
    rw [show kindL (kd.set p .free) = (kindL kd).set p 0 by simp [kindL, List.map_set, PK.kind], big_same HKK.out rfl]
    exact HS5.out
set_option maxHeartbeats 8000000 in
theorem rfree_small32 (mb a p c i r : Nat) (xs : List Bool) (L : RLay) (F : List Nat) (ws : List Int) (kd kd' : List PK) (w : World) (h : RpAt w mb L F ws (kindL kd) (bigL kd) kd) (hw : WF kd) (hk : kat kd p = .small c xs) (hc : c < 5) (hp : a / 64 = p) (hr : a % 64 = r) (hi : r / 32 = i) (hil : i < xs.length) (hxl : xs.length ≤ 32) (hab : a ≤ 20000)
    (hd : noneB (xs.set i false) = false ∧ kd' = kd.set p (.small c (xs.set i false)) ∨ noneB (xs.set i false) = true ∧ kd' = kd.set p .free)
    (hf : Calls Try.prog 25 #[.pointer (some ⟨mb, 0, none⟩), .int .i64 a] w fun e w' => e = .returned (foundA (some (a, 32))) ∧ Keep [] w w') :
    Calls Try.prog 17 #[.pointer (some ⟨mb, 0, none⟩), .int .i64 a] w fun e w' => e = .returned (.int .i64 0) ∧ RpAt w' mb L F ws (kindL kd') (bigL kd') kd' ∧ Keep F w w' := by
  have HF := (show Hid (Calls Try.prog 25 #[.pointer (some ⟨mb, 0, none⟩), .int .i64 a] w fun e w' => e = .returned (.agg #[.int .i64 a, .int .i64 32, .bool true]) ∧ Keep [] w w') from hf)
  have HM := (show Hid (RpAt w mb L F ws (kindL kd) (bigL kd) kd) from h)
  have HKK := (show Hid (kat kd p = .small c xs) from hk)
  have HPL := (show Hid (p < kd.length) from kat_lt kd p (by rw [hk]; simp))
  obtain ⟨n, hn⟩ : ∃ n, kd.length = n := ⟨_, rfl⟩
  have HN := (show Hid (kd.length = n) from hn)
  have hn2 : n ≤ 256 := by rw [← hn]; exact hw.len2
  have m3 : p < n := by rw [← hn]; exact HPL.out
  have h1 : (a : Int) / 64 = p := by omega
  have h2 : (a : Int).tdiv 64 = p := by rw [Int.tdiv_eq_ediv_of_nonneg (by omega)]; exact h1
  have h3 : (a : Int) % 64 = r := by omega
  have h4 : (a : Int).tmod 64 = r := by rw [Int.tmod_eq_emod_of_nonneg (by omega)]; exact h3
  have hcc : (c : Int) + 1 ≠ 6 := by omega
  have hd6 : decide ((c : Int) + 1 = 6) = false := by rw [decide_eq_false_iff_not]; exact hcc
  obtain ⟨xl, hxl2⟩ : ∃ xl, xs.length = xl := ⟨_, rfl⟩
  have HXL := (show Hid (xs.length = xl) from hxl2)
  have HIL := (show Hid (i < xs.length) from hil)
  rw [hxl2] at hil hxl
  have hib0 : (0 : Int) ≤ (i : Int) := by omega
  have hib1 : (i : Int) < (xl : Int) := by omega
  have f := h.f
  have ffp := h.fp p c xs hk
  have HD := (show Hid (noneB (xs.set i false) = false ∧ kd' = kd.set p (.small c (xs.set i false)) ∨ noneB (xs.set i false) = true ∧ kd' = kd.set p .free) from hd)
  have hTm : L.T p ≠ mb := ne_role (h.rp p c xs hk) h.r0 (by omega)
  have hTt : L.T p ≠ L.gt := ne_role (h.rp p c xs hk) h.r4 (by omega)
  have hlF := h.lt
  clear hf h hk hn hd hp hr hw hxl2
  have h5 : (r : Int) / 32 = i := by rw [← hi]; rfl
  have h6 : (r : Int).tdiv 32 = i := by rw [Int.tdiv_eq_ediv_of_nonneg (by omega)]; exact h5
  have hw1 : IntKind.i64.wrap ((r : Int).tdiv 32) = i := by rw [h6]; exact IntWalk.i64_in _ (by omega)
  have hw2 : IntKind.i64.wrap ((r : Int) / 32) = i := by rw [h5]; exact IntWalk.i64_in _ (by omega)
  have hw3 : IntKind.i64.wrap (i : Int) = i := IntWalk.i64_in _ (by omega)
  have hib2 : (i : Int) ≤ (xl : Int) := by omega
  clear hi
  go_enter Try.func17, Try.ntmps17
  go_wp2_with fail
  refine HF.out.mono ?_
  rintro e w1 ⟨rfl, hK1⟩
  have hKa := hK1.trans (Keep.alloc [] w1 (.cells #[.int .i64 (a : Int), .int .i64 32, .bool true] 56))
  have hM1 := HM.out.keep0 hKa
  have c1 := hM1.c1
  have c3 := hM1.c3
  rw [HN.out] at c1 c3
  have ck : (w1.alloc (.cells #[.int .i64 (a : Int), .int .i64 32, .bool true] 56)).cell? ⟨L.gk, p, none⟩ = some (.int .i64 ((c : Int) + 1)) := by
    have := hM1.ck (p := p) HPL.out
    rw [kindL_get, HKK.out] at this; exact this
  have ct : (w1.alloc (.cells #[.int .i64 (a : Int), .int .i64 32, .bool true] 56)).cell? ⟨L.gt, p, none⟩ = some (.slice (some ⟨L.T p, 0, none⟩) xl xl) := by
    have := hM1.ct (p := p) HPL.out
    rw [HKK.out] at this
    rw [← HXL.out]; exact this
  have hbx := heap_alloc_new w1 (.cells #[.int .i64 (a : Int), .int .i64 32, .bool true] 56)
  have cx := (hM1.page p c xs HKK.out).cell HIL.out
  have fx := (hM1.page p c xs HKK.out).free i
  have hsz1 := hK1.size
  go_wp2_with fail
  obtain ⟨bx, hbxe⟩ : ∃ bx, w1.heap.size = bx := ⟨_, rfl⟩
  rw [hbxe] at hbx hsz1 ⊢
  generalize w1.alloc (.cells #[.int .i64 (a : Int), .int .i64 32, .bool true] 56) = w2 at *
  have cb : w2.cell? ⟨bx, 1, none⟩ = some (.int .i64 32) := by simp [World.cell?, hbx]
  have hTb : L.T p ≠ bx := by have := hlF _ ffp; omega
  clear hK1 hbxe
  go_region_held3 (fun wz => wz.cell? ⟨mb, 3, none⟩ = some (.slice (some ⟨L.gt, 0, none⟩) n n) ∧ wz.cell? ⟨L.gt, p, none⟩ = some (.slice (some ⟨L.T p, 0, none⟩) xl xl) ∧ wz.cell? ⟨bx, 1, none⟩ = some (.int .i64 32)) (go_keep) (first | (fail))
  have hS2 := (hM1.inner (i := i) (b := false) HKK.out).keep0 (Keep.drew [] _)
  have HKb := (show Hid (Keep F w ((w2.setCell ⟨L.T p, i, none⟩ (.bool false)).drew)) from ((hKa.mono (by simp)).trans (Keep.setCell _ _ ffp)).trans (Keep.drew F _))
  have c3b := hS2.c3
  rw [List.length_set, HN.out] at c3b
  have ctb : (w2.setCell ⟨L.T p, i, none⟩ (.bool false)).drew.cell? ⟨L.gt, p, none⟩ = some (.slice (some ⟨L.T p, 0, none⟩) xl xl) := by
    have := hS2.ct (p := p) (by rw [List.length_set]; exact HPL.out)
    rw [kat_set_same _ _ _ HPL.out] at this
    have e : (xs.set i false).length = xl := by rw [List.length_set]; exact HXL.out
    rw [← e]; exact this
  have hBR := hS2.page p c (xs.set i false) (kat_set_same _ _ _ HPL.out)
  generalize (w2.setCell ⟨L.T p, i, none⟩ (.bool false)).drew = w4 at *
  have HYL := (show Hid ((xs.set i false).length = xl) from by show _ = _; rw [List.length_set]; exact HXL.out)
  have HNC := (show Hid (noneB (xs.set i false) = decide ((cntA (xs.set i false) : Int) = 0)) from none_count _)
  have HS2 := (show Hid (RpAt w4 mb L F ws (kindL kd) (bigL kd) (kd.set p (.small c (xs.set i false)))) from hS2)
  have c1b := hS2.c1
  rw [List.length_set, HN.out] at c1b
  have ckb := hS2.ck (p := p) (by rw [List.length_set]; exact HPL.out)
  have fkb := hS2.rowK.free p
  have hkat := kat_set_same kd p (.small c (xs.set i false)) HPL.out
  have hS5 := (hS2.setK p 0).drop hkat
  have hTd := (hS2.setK p 0).c3
  rw [List.length_set, HN.out] at hTd
  have hTe := (hS2.setK p 0).ct (p := p) (by rw [List.length_set]; exact HPL.out)
  have hTf := (hS2.setK p 0).ft p
  have HS5 := (show Hid (RpAt ((w4.setCell ⟨L.gk, p, none⟩ (.int .i64 0)).setCell ⟨L.gt, p, none⟩ (.slice none 0 0)) mb L F ws ((kindL kd).set p 0) (bigL kd) (kd.set p .free)) from by
    have := hS5
    rw [List.set_set] at this
    exact this)
  clear hS2 hS5 hM1 c1 c3 ck ct cx fx cb
  generalize hys : xs.set i false = ys at *
  go_wp2_with fail
  refine (rcount_any (L.T p) xl xl ys w4 hBR HYL.out (by omega)).mono ?_
  rintro e w' ⟨rfl, rfl⟩
  obtain ⟨cy, hcy⟩ : ∃ cy, cntA ys = cy := ⟨_, rfl⟩
  rw [hcy]
  rw [hcy] at HNC
  rcases HD.out with ⟨hno, rfl⟩ | ⟨hno, rfl⟩
  · have hcy0 : decide ((cy : Int) = 0) = false := by rw [← HNC.out]; exact hno
    have hcyn : (cy : Int) ≠ 0 := by simpa using hcy0
    go_wp2_with fail
    go_ret
    refine ⟨rfl, ?_, HKb.out⟩
    rw [kind_same HKK.out, big_same HKK.out rfl]
    exact HS2.out
  · have hcy0 : decide ((cy : Int) = 0) = true := by rw [← HNC.out]; exact hno
    have hcyn : (cy : Int) = 0 := by simpa using hcy0
    have HKc := (show Hid (Keep F w ((w4.setCell ⟨L.gk, p, none⟩ (.int .i64 0)).setCell ⟨L.gt, p, none⟩ (.slice none 0 0))) from (HKb.out.trans (Keep.setCell _ _ f.2.2.1)).trans (Keep.setCell _ _ f.2.2.2.2))
    go_wp2_with fail
    go_ret
    refine ⟨rfl, ?_, HKc.out⟩
    rw [show kindL (kd.set p .free) = (kindL kd).set p 0 by simp [kindL, List.map_set, PK.kind], big_same HKK.out rfl]
    exact HS5.out

/-- Free of the document's own, where no block begins, and where one does. -/
theorem rfree_no (mb : Nat) (F : List Nat) (a : Int) (ws : List Int) (kd : List PK) (w : World) (h : IsRef w mb F ws kd) (hw : WF kd) (ho : ∀ s n, findI kd a = some (s, n) → (s : Int) ≠ a) :
    Calls Try.prog 17 #[.pointer (some ⟨mb, 0, none⟩), .int .i64 a] w fun e w' => e = .returned (.int .i64 2) ∧ Keep [] w w' :=
  rfree_none mb a w _ (rfind_any mb F a ws kd w h hw) ho
theorem rfree_yes (mb a m : Nat) (F : List Nat) (ws : List Int) (kd kd' : List PK) (w : World) (h : IsRef w mb F ws kd) (hw : WF kd) (hf : findN kd a = some (a, m)) (hr : FreeR kd a kd') :
    Calls Try.prog 17 #[.pointer (some ⟨mb, 0, none⟩), .int .i64 a] w fun e w' => e = .returned (.int .i64 0) ∧ IsRef w' mb F ws kd' ∧ Keep F w w' := by
  have hfi : findI kd (a : Int) = some (a, m) := by unfold findI; rw [if_neg (by omega), Int.toNat_natCast]; exact hf
  have hff := rfind_any mb F (a : Int) ws kd w h hw
  rw [hfi] at hff
  obtain ⟨L, h⟩ := h
  have hn2 := hw.len2
  have hfd := hw.found hf
  have small : ∀ c xs, kat kd (a / 64) = .small c xs → xs[a % 64 / sz c]?.getD false = true → (noneB (xs.set (a % 64 / sz c) false) = false ∧ kd' = kd.set (a / 64) (.small c (xs.set (a % 64 / sz c) false)) ∨ noneB (xs.set (a % 64 / sz c) false) = true ∧ kd' = kd.set (a / 64) .free) →
      Calls Try.prog 17 #[.pointer (some ⟨mb, 0, none⟩), .int .i64 a] w fun e w' => e = .returned (.int .i64 0) ∧ IsRef w' mb F ws kd' ∧ Keep F w w' := by
    intro c xs hk hx hd
    obtain ⟨hc, hl, _⟩ := hw.small _ c xs hk
    have hil : a % 64 / sz c < xs.length := by rw [hl]; exact (sz_word c a hc).2.1
    have hx32 : xs.length ≤ 32 := by rw [hl]; exact (sz_facts c hc).2.2.2.2.2.1
    have hm : m = sz c := by
      rw [find_small kd a c xs hk, if_pos hx] at hf
      simpa using congrArg (fun o => (o.getD (0, 0)).2) hf.symm
    subst hm
    have fin : (∃ P, P = True) → Calls Try.prog 17 #[.pointer (some ⟨mb, 0, none⟩), .int .i64 a] w fun e w' => e = .returned (.int .i64 0) ∧ RpAt w' mb L F ws (kindL kd') (bigL kd') kd' ∧ Keep F w w' := by
      intro _
      rcases sz_cases c hc with ⟨e, _⟩ | ⟨e, _⟩ | ⟨e, _⟩ | ⟨e, _⟩ | ⟨e, _⟩
      · rw [e] at hff hil hd; exact rfree_small2 mb a _ c _ _ xs L F ws kd kd' w h hw hk hc rfl rfl rfl hil hx32 (by omega) hd hff
      · rw [e] at hff hil hd; exact rfree_small4 mb a _ c _ _ xs L F ws kd kd' w h hw hk hc rfl rfl rfl hil hx32 (by omega) hd hff
      · rw [e] at hff hil hd; exact rfree_small8 mb a _ c _ _ xs L F ws kd kd' w h hw hk hc rfl rfl rfl hil hx32 (by omega) hd hff
      · rw [e] at hff hil hd; exact rfree_small16 mb a _ c _ _ xs L F ws kd kd' w h hw hk hc rfl rfl rfl hil hx32 (by omega) hd hff
      · rw [e] at hff hil hd; exact rfree_small32 mb a _ c _ _ xs L F ws kd kd' w h hw hk hc rfl rfl rfl hil hx32 (by omega) hd hff
    refine (fin ⟨True, rfl⟩).mono ?_
    rintro e w' ⟨rfl, hS, hK⟩
    exact ⟨rfl, ⟨L, hS⟩, hK⟩
  cases hr with
  | one c xs e1 e2 e3 e4 => exact small c xs e1 e2 (.inl ⟨e4, rfl⟩)
  | last c xs e1 e2 e3 e4 => exact small c xs e1 e2 (.inr ⟨e4, rfl⟩)
  | large k e1 e2 =>
    have hm : m = 64 * k := by
      rw [find_part kd a 0 k e1] at hf
      simpa using congrArg (fun o => (o.getD (0, 0)).2) hf.symm
    subst hm
    refine (rfree_large mb a _ k L F ws kd w h hw e1 rfl (by omega) hff).mono ?_
    rintro e w' ⟨rfl, hS, hK⟩
    exact ⟨rfl, ⟨L, hS⟩, hK⟩

end Go.Proofs.Ytfmfnmpibnddmaa
