/-
  ClassRuns: classes are numbered as they come, what may not be is none; each stays as it was.
-/
import Derived.Test.YtfmfnmpibnddmabAwake7
import Derived.Test.YtfmfnmpibnddmabOpenCls
import Derived.Deep.CutRange
namespace Go.Proofs.Ytfmfnmpibnddmab.classRuns
open Go.RowKit

/-- Of the first j those that may be. -/
def clsTo (A : Nat → CV) (j : Nat) : List CV := ((List.range j).filter (fun i => mayB (A i).f (A i).L)).map A
theorem clsTo_yes (A : Nat → CV) (j : Nat) (h : mayB (A j).f (A j).L = true) : clsTo A (j + 1) = clsTo A j ++ [A j] := by
  unfold clsTo; rw [List.range_succ, List.filter_append, List.map_append]; simp [h]
theorem clsTo_no (A : Nat → CV) (j : Nat) (h : mayB (A j).f (A j).L = false) : clsTo A (j + 1) = clsTo A j := by
  unfold clsTo; rw [List.range_succ, List.filter_append, List.map_append]; simp [h]
theorem clsTo_len (A : Nat → CV) (j : Nat) : (clsTo A j).length ≤ j := by
  unfold clsTo; rw [List.length_map]; exact Nat.le_trans (List.length_filter_le _ _) (by simp)
theorem clsTo_mem (A : Nat → CV) (j : Nat) (i : Nat) (c : CV) (h : (clsTo A j)[i]? = some c) : ∃ k, k < j ∧ c = A k := by
  have hm : c ∈ clsTo A j := List.mem_of_getElem? h
  unfold clsTo at hm
  obtain ⟨k, hk, rfl⟩ := List.mem_map.1 hm
  exact ⟨k, List.mem_range.1 (List.mem_filter.1 hk).1, rfl⟩

/-- What is told so far: the table, and the row of what is wanted. -/
structure Both (w wr : World) (tb : Nat) (v : Value) (cs : List CV) : Prop where
  F : ∃ F, IsTab wr tb F (cs.map CV.d) ∧ (∀ x, x ∈ F → w.heap.size ≤ x) ∧ ∀ g, v.ownBlock = some g → g ∉ F
  own : wr.ownsRow w.heap.size 47 2 v cs.length (flat cs)
  K : Keep [] w wr

theorem own2_form {w : World} {base : Nat} {e : TypeId} {v : Value} {n : Nat} {xs : List Value} (h : w.ownsRow base e 2 v n xs) : ∃ va vc, v = .slice va n vc ∧ ∀ a, va = some a → a.block < w.heap.size ∧ base ≤ a.block := by
  rcases h.2 with ⟨rfl, rfl⟩ | ⟨g, cap, cur, rfl, hb, hg, _⟩
  · exact ⟨none, 0, rfl, fun a e => by cases e⟩
  · exact ⟨some ⟨g, 0, none⟩, cap, rfl, fun a e => by cases e; exact ⟨lt_of_block hg, hb⟩⟩
theorem own2_keep {S : List Nat} {w w' : World} {base : Nat} {e : TypeId} {size n : Nat} {v : Value} {xs : List Value} (h : w.ownsRow base e size v n xs) (k : Keep S w w') (hS : ∀ g, v.ownBlock = some g → g ∉ S) : w'.ownsRow base e size v n xs := by
  refine ⟨h.1, ?_⟩
  rcases h.2 with h | ⟨g, cap, cur, h1, h2, h3, h4⟩
  · exact .inl h
  · subst h1; exact .inr ⟨g, cap, cur, rfl, h2, k.blk h3 (hS g rfl), h4⟩

theorem tab_small {F : List Nat} {w : World} {tb i : Nat} {ds : List (Int × List Int)} {f : Int} {L : List Int} (h : IsTab w tb F ds) (hi : ds[i]? = some (f, L)) : L.length ≤ 1000000 := by
  obtain ⟨va, vc, cs, h, rfl⟩ := h
  rw [List.getElem?_map] at hi
  cases hc : cs[i]? with
  | none => rw [hc] at hi; simp at hi
  | some c =>
    rw [hc] at hi
    have : c.L = L := by simp [CV.d] at hi; exact hi.2
    rw [← this]
    exact (h.each i c hc).2.2.1
theorem Both.keep0 {w wr wr' : World} {tb : Nat} {v : Value} {cs : List CV} (h : Both w wr tb v cs) (K : Keep [] wr wr') : Both w wr' tb v cs := by
  obtain ⟨F, h1, h2, h3⟩ := h.F
  exact ⟨⟨F, h1.keep K (by simp), h2, h3⟩, own2_keep h.own K (by simp), h.K.trans K⟩
theorem Both.step {w w2 w3 w4 w5 : World} {tb g cap : Nat} {v : Value} {cs : List CV} {c : CV} {o : Obj} {F F3 : List Nat} (h : Both w w2 tb v cs) (hF1 : ∀ x, x ∈ F → w.heap.size ≤ x) (hF2 : ∀ g, v.ownBlock = some g → g ∉ F)
    (hT3 : IsTab w3 tb F3 (cs.map CV.d ++ [(c.f, c.L)])) (hF3 : ∀ k, k ∈ F3 → k ∈ F ∨ w2.heap.size ≤ k) (hK3 : Keep F w2 w3) (hK4 : Keep [] w3 w4)
    (hown : w5.ownsRow w.heap.size 47 2 (.slice (some ⟨g, 0, none⟩) (cs.length + 1) cap) (cs.length + 1) (flat cs ++ c.cells)) (hg : (w4.alloc o).grownBy w5 v.ownBlock) (hat : v.ownBlock = some g ∨ g = w4.heap.size + 1) :
    Both w w5 tb (.slice (some ⟨g, 0, none⟩) (cs.length + 1) cap) (cs ++ [c]) := by
  have hlt := h.own.lt
  have s3 := hK3.size
  have s4 := hK4.size
  have far : ∀ k, v.ownBlock = some k → k ∉ F3 := fun k e hk => by
    rcases hF3 k hk with h1 | h1
    · exact hF2 k e h1
    · have := (hlt k e).2; omega
  have KG : Keep v.ownBlock.toList w4 w5 := ⟨hg.os, hg.tape, hg.output, Nat.le_trans (by simp) hg.size, fun k hk hS =>
    (hg.block k (by simp; omega) (fun e => hS (by rw [← e]; simp))).trans (Below.heap_alloc _ _ _ hk)⟩
  refine ⟨⟨F3, ?_, ?_, ?_⟩, ?_, ?_⟩
  · rw [List.map_append]
    exact (hT3.keep hK4 (by simp)).keep KG (fun k hk e => far k (by simpa using e) hk)
  · intro x hx
    rcases hF3 x hx with h1 | h1
    · exact hF1 x h1
    · have := h.K.size; omega
  · intro g' e
    cases e
    rcases hat with e | e
    · exact far g e
    · intro hk; have := hT3.lt g hk; omega
  · have hl : (cs ++ [c]).length = cs.length + 1 := by simp
    rw [hl, flat_app, flat_one]; exact hown
  · refine (((h.K.mono (T := F ++ v.ownBlock.toList) (by simp)).trans (hK3.mono (by simp; intro k hk; exact .inl hk))).trans ((hK4.mono (by simp)).trans (KG.mono (by simp; intro k hk; exact .inr hk)))).drop ?_
    intro k hk hkw
    rcases List.mem_append.1 hk with h1 | h1
    · have := hF1 k h1; omega
    · have := (hlt k (by simpa using h1)).1; omega

set_option maxRecDepth 100000 in
set_option maxHeartbeats 6400000 in
theorem runs_any (ao : Option Addr) (n cp : Nat) (A : Nat → CV) (id : Int) (w : World) (hn : n ≤ 9223372036854775807) (hid : -9223372036854775808 ≤ id ∧ id ≤ 9223372036854775807) (hl : ClsAt w ao n A) :
    Calls Try.prog 5 #[.slice ao n cp, .int .i64 id] w fun e w' => e = .returned (.bool true) ∧ Keep [] w w' := by
  obtain ⟨i0, hi, hz0, hz1, hz2⟩ := info_parts Try.infoClass
  have hI : Hid (Try.prog.info? 47 = some i0 ∧ i0.zero = some (.agg #[.int .i64 0, .slice none 0 0]) ∧ i0.size = 2 ∧ i0.bytes = 32) := ⟨hi, hz0, hz1, hz2⟩
  clear hi hz0 hz1 hz2
  have HU := (show Hid (ClsAt w ao n A) from hl)
  clear hl
  go_enter Try.func5, Try.ntmps5
  go_wp2_with fail
  refine (tnew _).mono ?_
  rintro e w1 ⟨tb, rfl, hT, hK1, htb⟩
  have HB := (show Hid (Both w w1 tb (.slice none 0 0) []) from ⟨⟨[tb], hT, (by simp; omega), (fun g e => by simp [Value.ownBlock] at e)⟩, World.ownsRow_nil _ _ _ _, hK1⟩)
  clear hT
  by_cases hbig : 40 < n
  · have hd : decide ((40 : Int) < (n : Int)) = true := by rw [decide_eq_true_iff]; omega
    go_wp2_with (first | (go_at_call 17; refine (awake7_any _).mono ?_; rintro e we ⟨rfl, hKe⟩))
    go_ret
    exact ⟨rfl, hK1.trans hKe⟩
  · have hd : decide ((40 : Int) < (n : Int)) = false := by rw [decide_eq_false_iff_not]; omega
    have hn40 : n ≤ 40 := by omega
    go_wp2_with fail
    clear hd hbig hK1
    go_loopw [6, 7] (fun v i wr => ∃ (j : Nat) (vv : Value), vv = v ∧ i = .int .i64 j ∧ j ≤ n ∧ Hid (Both w wr tb v (clsTo A j))) (fun _ i _ => n - (intOf i).toNat)
    case atStart => exact ⟨0, _, rfl, rfl, by omega, HB⟩
    case round =>
      obtain ⟨j, v, hvv, rfl, hj, HB2⟩ := hrel
      obtain ⟨w2, rfl⟩ : ∃ w2, w2 = wr := ⟨_, rfl⟩
      subst hvv
      have hK := HB2.out.K
      have hkl := clsTo_len A j
      by_cases hlt : j < n
      · obtain ⟨b, off, rfl, hbs, hcell⟩ := HU.out.cells (by omega)
        obtain ⟨hcf, hcr⟩ := hcell j hlt
        have c0 := (hK.cell hbs (by simp) (off + j * 2)).trans hcf
        have c1 := (hK.cell hbs (by simp) (off + j * 2 + 1)).trans hcr
        obtain ⟨oI, oc, ol, of1, of2⟩ := HU.out.ok j hlt
        have HNO := (show Hid (mayB (A j).f (A j).L = false → clsTo A (j + 1) = clsTo A j) from clsTo_no A j)
        have HYES := (show Hid (mayB (A j).f (A j).L = true → clsTo A (j + 1) = clsTo A j ++ [A j]) from clsTo_yes A j)
        obtain ⟨f, hf⟩ : ∃ f, (A j).f = f := ⟨_, rfl⟩
        obtain ⟨aa, haa⟩ : ∃ aa, (A j).ao = aa := ⟨_, rfl⟩
        obtain ⟨cc, hcc⟩ : ∃ cc, (A j).cp = cc := ⟨_, rfl⟩
        obtain ⟨L, hL⟩ : ∃ L, (A j).L = L := ⟨_, rfl⟩
        have HAJ := (show Hid (A j = ⟨f, aa, cc, L⟩) from by show _ = _; rw [← hf, ← haa, ← hcc, ← hL])
        rw [hf] at c0
        rw [haa, hcc, hL] at c1
        rw [haa, hL] at oI
        rw [haa, hcc] at oc
        rw [hL] at ol
        obtain ⟨ln, hln⟩ : ∃ ln, L.length = ln := ⟨_, rfl⟩
        rw [hln] at c1 ol
        have HLN := (show Hid (L.length = ln) from hln)
        have HOI := (show Hid (IntsAt w aa L) from oI)
        have HOC := (show Hid (aa = none → cc = 0) from oc)
        rw [hf, hL] at HNO HYES
        obtain ⟨cs, hcs⟩ : ∃ cs, clsTo A j = cs := ⟨_, rfl⟩
        rw [hcs] at HB2 HNO HYES hkl
        obtain ⟨k, hk⟩ : ∃ k, cs.length = k := ⟨_, rfl⟩
        have HCK := (show Hid (cs.length = k) from hk)
        rw [hk] at hkl
        clear oI oc hcf hcr hcell hf haa hcc hL hln hcs hk
        have hj0 : (0 : Int) ≤ (j : Int) := by omega
        have hj1 : (j : Int) < n := by omega
        by_cases h40 : 40 < ln
        · have hd : decide ((40 : Int) < (ln : Int)) = true := by rw [decide_eq_true_iff]; omega
          go_wp2_with (first | (go_at_call 17; refine (awake7_any _).mono ?_; rintro e we ⟨rfl, hKe⟩))
          go_ret
          exact ⟨rfl, hK.trans hKe⟩
        · have hd : decide ((40 : Int) < (ln : Int)) = false := by rw [decide_eq_false_iff_not]; omega
          obtain ⟨F, hT, hF1, hF2⟩ := HB2.out.F
          have HT := (show Hid (IsTab w2 tb F (cs.map CV.d)) from hT)
          have HF := (show Hid ((∀ x, x ∈ F → w.heap.size ≤ x) ∧ ∀ g, v.ownBlock = some g → g ∉ F) from ⟨hF1, hF2⟩)
          have HDL := (show Hid ((cs.map CV.d).length = k) from by show _ = _; rw [List.length_map]; exact HCK.out)
          clear hT hF1 hF2
          cases hm : mayB f L with
          | false =>
            have HM := (show Hid (mayB f L = false) from hm)
            go_wp2_with (first | (go_at_call 18; refine (tadd_arg tb f aa ln cc L _ (HOI.out.keep hK (by simp [Off])) HLN.out (by omega) HM.out).mono ?_; rintro e w3 ⟨rfl, hK3⟩; have hKw3 := hK.trans hK3; have d0 := (hKw3.cell hbs (by simp) (off + j * 2)).trans ((hK.cell hbs (by simp) (off + j * 2)).symm.trans c0); have d1 := (hKw3.cell hbs (by simp) (off + j * 2 + 1)).trans ((hK.cell hbs (by simp) (off + j * 2 + 1)).symm.trans c1)) | (go_at_call 19; refine (rmay_any f aa ln cc L _ (HOI.out.keep hKw3 (by simp [Off])) HLN.out (by omega)).mono ?_; rw [HM.out]; rintro e w4 ⟨rfl, hK4⟩) | (go_at_call 10; refine (err7 _ _).mono ?_; rintro e w' ⟨rfl, rfl⟩))
            have HB3 := (show Hid (Both w w4 tb v (clsTo A (j + 1))) from by
              show Both _ _ _ _ _
              rw [HNO.out HM.out]
              exact HB2.out.keep0 (hK3.trans hK4))
            go_roundw
            case rel => exact ⟨j + 1, _, rfl, by go_num, by omega, HB3⟩
            case measure => simp [intOf]; omega
          | true =>
            have HM := (show Hid (mayB f L = true) from hm)
            have EN := (show Hid (addN (cs.map CV.d) f L = (k : Int) + 1 ∧ addE (cs.map CV.d) f L = 0 ∧ addR (cs.map CV.d) f L = cs.map CV.d ++ [(f, L)]) from by
              have h256 : k < 256 := by omega
              unfold addN addE addR
              rw [HDL.out]
              show _ ∧ _ ∧ _
              simp [hm, h256])
            clear hm
            go_wp2_with (first | (go_at_call 18; refine (tadd_any tb F _ f aa ln cc L _ HT.out (HOI.out.keep hK (by simp [Off])) HOC.out HLN.out (by omega)).mono ?_; rw [EN.out.1, EN.out.2.1, EN.out.2.2]; rintro e w3 ⟨rfl, ⟨F3, hT3, hF3⟩, hK3⟩; have hKw3 : Keep [] w w3 := ((hK.mono (T := F) (by simp)).trans hK3).drop (fun k hk hkw => by have := HF.out.1 k hk; omega); have d0 := (hKw3.cell hbs (by simp) (off + j * 2)).trans ((hK.cell hbs (by simp) (off + j * 2)).symm.trans c0); have d1 := (hKw3.cell hbs (by simp) (off + j * 2 + 1)).trans ((hK.cell hbs (by simp) (off + j * 2 + 1)).symm.trans c1); have HT3 := (show Hid (IsTab w3 tb F3 (cs.map CV.d ++ [(f, L)]) ∧ ∀ k, k ∈ F3 → k ∈ F ∨ w2.heap.size ≤ k) from ⟨hT3, hF3⟩); clear hT3 hF3) | (go_at_call 19; refine (rmay_any f aa ln cc L _ (HOI.out.keep hKw3 (by simp [Off])) HLN.out (by omega)).mono ?_; rw [HM.out]; rintro e w4 ⟨rfl, hK4⟩; have hKw4 := hKw3.trans hK4; have x0 := (hKw4.cell hbs (by simp) (off + j * 2)).trans ((hK.cell hbs (by simp) (off + j * 2)).symm.trans c0); have x1 := (hKw4.cell hbs (by simp) (off + j * 2 + 1)).trans ((hK.cell hbs (by simp) (off + j * 2 + 1)).symm.trans c1); have HO4 := (show Hid (w4.ownsRow w.heap.size 47 2 v k (flat cs)) from (by have := own2_keep (own2_keep HB2.out.own hK3 HF.out.2) hK4 (by simp); rw [HCK.out] at this; exact this)); have hs4 := hKw4.size) | (at_builtin; refine wpList_append_lies _ rfl (.tmp 57) (.tmp 62) 43 rfl w.heap.size 47 i0 (.agg #[.int .i64 0, .slice none 0 0]) 2 32 Try.underlying43 hI.out.1 hI.out.2.1 hI.out.2.2.1 hI.out.2.2.2 rfl (by decide) v k (flat cs) rfl (HO4.out.alloc _) ⟨w4.heap.size, 0, none⟩ 1 1 [.int .i64 f, .slice aa ln cc] rfl rfl (World.news_of_block (heap_alloc_new w4 _)) (oneCells f aa ln cc) (by omega) (by unfold maxLen; omega) (by omega) (by simp; omega) (w4.heap.size + 1) (by simp) ?_; intro g cap w5 hown hgrow hat hlt5; have HB3 := (show Hid (Both w w5 tb (.slice (some ⟨g, 0, none⟩) (k + 1) cap) (clsTo A (j + 1))) from (by have hs := Both.step (c := ⟨f, aa, cc, L⟩) HB2.out HF.out.1 HF.out.2 HT3.out.1 HT3.out.2 hK3 hK4 (g := g) (cap := cap) (by rw [HCK.out]; simp only [CV.cells]; rw [HLN.out]; exact hown) hgrow hat; rw [HCK.out] at hs; show Both _ _ _ _ _; rw [HYES.out HM.out, HAJ.out]; exact hs)); clear hown hgrow hat hlt5) | (go_at_call 10; refine (err7 _ _).mono ?_; rintro e w' ⟨rfl, rfl⟩))
            go_roundw
            case rel => exact ⟨j + 1, _, rfl, by go_num, by omega, HB3⟩
            case measure => simp [intOf]; omega
      · obtain rfl : j = n := by omega
        obtain ⟨cs, hcs⟩ : ∃ cs, clsTo A j = cs := ⟨_, rfl⟩
        have HMEM := (show Hid (∀ (i : Nat) (c : CV), cs[i]? = some c → ∃ k, k < j ∧ c = A k) from by rw [← hcs]; exact clsTo_mem A j)
        rw [hcs] at HB2 hkl
        obtain ⟨F, hT, hF1, hF2⟩ := HB2.out.F
        obtain ⟨k, hk⟩ : ∃ k, cs.length = k := ⟨_, rfl⟩
        rw [hk] at hkl
        have hO := HB2.out.own
        rw [hk] at hO
        obtain ⟨va, vc, rfl, hva⟩ := own2_form hO
        have HO := (show Hid (w2.ownsRow w.heap.size 47 2 (.slice va k vc) k (flat cs)) from hO)
        have HCK := (show Hid (cs.length = k) from hk)
        have HT := (show Hid (IsTab w2 tb F (cs.map CV.d)) from hT)
        have HDL := (show Hid ((cs.map CV.d).length = k) from by show _ = _; rw [List.length_map]; exact hk)
        clear hT hF1 hF2 hO hva hcs HB2 hk
        go_wp2_with fail
        go_loopw [10] (fun i wr => ∃ t : Nat, i = .int .i64 t ∧ t ≤ k ∧ Keep [] w2 wr) (fun i _ => k - (intOf i).toNat)
        case atStart => exact ⟨0, rfl, by omega, Keep.refl _ _⟩
        case round =>
          obtain ⟨t, rfl, ht, hK2⟩ := hrel
          obtain ⟨w3, rfl⟩ : ∃ w3, w3 = wr := ⟨_, rfl⟩
          have HT3 := (show Hid (IsTab w3 tb F (cs.map CV.d)) from HT.out.keep hK2 (by simp))
          by_cases hlt2 : t < k
          · obtain ⟨c, hc⟩ : ∃ c, cs[t]? = some c := ⟨cs[t]'(by rw [HCK.out]; exact hlt2), by simp [HCK.out, hlt2]⟩
            obtain ⟨kk, hkk, hck⟩ := HMEM.out t c hc
            have hds : (cs.map CV.d)[t]? = some (c.f, c.L) := by rw [List.getElem?_map, hc]; rfl
            have hln := tab_small HT3.out hds
            obtain ⟨oI, oc, _, _, _⟩ := HU.out.ok kk hkk
            rw [← hck] at oI oc
            obtain ⟨q0, q1⟩ := flat_get0 cs t c hc
            obtain ⟨f, aa, cc, L⟩ := c
            simp only at oI oc q0 q1 hln hds
            obtain ⟨g, ca, ev, _, hgl⟩ := HO.out.form (by omega)
            cases ev
            have p0 : w2.cell? ⟨g, t * 2, none⟩ = some (.int .i64 f) := by have := HO.out.cells rfl _ _ q0; rwa [Go.WideShapes.add_plain, Nat.zero_add] at this
            have p1 : w2.cell? ⟨g, t * 2 + 1, none⟩ = some (.slice aa L.length cc) := by have := HO.out.cells rfl _ _ q1; rwa [Go.WideShapes.add_plain, Nat.zero_add] at this
            have y0 := (hK2.cell hgl (by simp) (t * 2)).trans p0
            have y1 := (hK2.cell hgl (by simp) (t * 2 + 1)).trans p1
            clear p0 p1
            obtain ⟨ln, hl⟩ : ∃ ln, L.length = ln := ⟨_, rfl⟩
            have HLN := (show Hid (L.length = ln) from hl)
            rw [hl] at y1 hln
            have HDS := (show Hid ((cs.map CV.d)[t]? = some (f, L)) from hds)
            have HOI := (show Hid (IntsAt w aa L) from oI)
            have hKw := hK.trans hK2
            have hgl3 := Nat.lt_of_lt_of_le hgl hK2.size
            have ht0 : (0 : Int) ≤ (t : Int) := by omega
            have ht1 : (t : Int) < k := by omega
            clear oI oc q0 q1 hds hl hc hck hkk
            go_upto_region 21 with (first | (go_at_call 20; refine (tclass_at tb t F _ f ((t : Int) + 1) L _ HT3.out HDS.out (by rw [HDL.out]; omega) rfl).mono ?_; rw [HLN.out]; rintro e w4 ⟨la, lc, rfl, hG, hK4⟩; have hK4a := hK4.trans (Keep.alloc [] w4 (.cells #[.int .i64 f, .slice la ln lc] 47)); have hx4 := heap_alloc_new w4 (.cells #[.int .i64 f, .slice la ln lc] 47)))
            obtain ⟨bc, hbc⟩ : ∃ bc, w4.heap.size = bc := ⟨_, rfl⟩
            rw [hbc] at hx4 ⊢
            have HG4 := (show Hid (IntsAt (w4.alloc (.cells #[.int .i64 f, .slice la ln lc] 47)) la L) from by
              obtain ⟨_, _, e, h1, _⟩ := hG
              cases e
              exact h1.keep (Keep.alloc [] _ _) (by simp [Off]))
            clear hG hbc hK4
            generalize w4.alloc (.cells #[.int .i64 f, .slice la ln lc] 47) = w5 at *
            have c0 : w5.cell? ⟨bc, 0, none⟩ = some (.int .i64 f) := by simp [World.cell?, hx4]
            have c1 : w5.cell? ⟨bc, 1, none⟩ = some (.slice la ln lc) := by simp [World.cell?, hx4]
            have z0 := (hK4a.cell hgl3 (by simp) (t * 2)).trans y0
            have z1 := (hK4a.cell hgl3 (by simp) (t * 2 + 1)).trans y1
            have HI5 := (show Hid (IntsAt w5 aa L) from (HOI.out.keep hKw (by simp [Off])).keep hK4a (by simp [Off]))
            clear y0 y1 hx4
            go_quiet (first | (go_at_call 10; exact Calls.quiet_of_same ((err7 _ _).mono (by rintro e w' ⟨rfl, rfl⟩; exact ⟨rfl, rfl⟩))) | (go_at_call 21; exact Calls.quiet_of (same_q la aa ln lc cc L _ (HG4.out.keep (Keep.drewN [] _ _) (by simp [Off])) (HI5.out.keep (Keep.drewN [] _ _) (by simp [Off])) HLN.out hln)))
            go_wp2_with fail
            go_roundw
            case rel => exact ⟨t + 1, by go_num, by omega, (hK2.trans hK4a).trans (Keep.drewN _ _ _)⟩
            case measure => simp [intOf]; omega
          · obtain rfl : t = k := by omega
            have hKw := hK.trans hK2
            by_cases hlo : id < 1
            · have hd : decide (id < 1) = true := decide_eq_true hlo
              have HNO := (show Hid (id < 1 ∨ (((cs.map CV.d).length : Nat) : Int) < id) from Or.inl hlo)
              go_wp2_with (first | (go_at_call 20; refine (tclass_no tb F _ id _ HT3.out HNO.out).mono ?_; rintro e w4 ⟨rfl, hK4⟩; have hK5 := hK4.trans (Keep.alloc [] w4 (.cells #[.int .i64 0, .slice none 0 0] 47)); have hT5 := HT3.out.keep hK5 (by simp)) | (go_at_call 10; refine (err7 _ _).mono ?_; rintro e w' ⟨rfl, rfl⟩) | (go_at_call 22; refine (tclasses tb F _ _ hT5).mono ?_; rw [HDL.out]; rintro e w' ⟨rfl, rfl⟩) | (go_at_call 17; refine (awake7_any _).mono ?_; rintro e w6 ⟨rfl, hK6⟩))
              go_ret
              exact ⟨rfl, (hKw.trans hK5).trans hK6⟩
            · have hd : decide (id < 1) = false := decide_eq_false hlo
              by_cases hhi : (t : Int) < id
              · have hd2 : decide ((t : Int) < id) = true := decide_eq_true hhi
                have HNO := (show Hid (id < 1 ∨ (((cs.map CV.d).length : Nat) : Int) < id) from Or.inr (by rw [HDL.out]; exact hhi))
                go_wp2_with (first | (go_at_call 20; refine (tclass_no tb F _ id _ HT3.out HNO.out).mono ?_; rintro e w4 ⟨rfl, hK4⟩; have hK5 := hK4.trans (Keep.alloc [] w4 (.cells #[.int .i64 0, .slice none 0 0] 47)); have hT5 := HT3.out.keep hK5 (by simp)) | (go_at_call 10; refine (err7 _ _).mono ?_; rintro e w' ⟨rfl, rfl⟩) | (go_at_call 22; refine (tclasses tb F _ _ hT5).mono ?_; rw [HDL.out]; rintro e w' ⟨rfl, rfl⟩) | (go_at_call 17; refine (awake7_any _).mono ?_; rintro e w6 ⟨rfl, hK6⟩))
                go_ret
                exact ⟨rfl, (hKw.trans hK5).trans hK6⟩
              · have hd2 : decide ((t : Int) < id) = false := decide_eq_false hhi
                obtain ⟨q, hq⟩ : ∃ q : Nat, id = (q : Int) + 1 := ⟨(id - 1).toNat, by omega⟩
                obtain ⟨c, hc⟩ : ∃ c, cs[q]? = some c := ⟨cs[q]'(by rw [HCK.out]; omega), by simp⟩
                obtain ⟨f, L, HDS⟩ : ∃ f L, Hid ((cs.map CV.d)[q]? = some (f, L)) := ⟨c.f, c.L, by show _ = _; rw [List.getElem?_map, hc]; rfl⟩
                have HQ := (show Hid (id = (q : Int) + 1) from hq)
                clear hc hq
                go_wp2_with (first | (go_at_call 20; refine (tclass_at tb q F _ f id L _ HT3.out HDS.out (by rw [HDL.out]; omega) HQ.out).mono ?_; rintro e w4 ⟨la, lc, rfl, hG, hK4⟩; have hK5 := hK4.trans (Keep.alloc [] w4 (.cells #[.int .i64 f, .slice la L.length lc] 47)); have hT5 := HT3.out.keep hK5 (by simp)) | (go_at_call 10; refine (err7 _ _).mono ?_; rintro e w' ⟨rfl, rfl⟩) | (go_at_call 22; refine (tclasses tb F _ _ hT5).mono ?_; rw [HDL.out]; rintro e w' ⟨rfl, rfl⟩) | (go_at_call 17; refine (awake7_any _).mono ?_; rintro e w6 ⟨rfl, hK6⟩))
                go_ret
                exact ⟨rfl, (hKw.trans hK5).trans hK6⟩

theorem walk (o0 : Option Addr) (len0 cap0 : Nat) (A0 : Nat → CV) (a1 : Int) (w0 : len0 ≤ 9223372036854775807) (w1 : (Lit.int .i64 a1).wf = true) (w : World) (u0 : ClsAt w o0 len0 A0) :
    Calls Try.prog 5 #[.slice o0 len0 cap0, .int .i64 a1] w fun e w' => e = .returned (.bool true) ∧ Keep [] w w' := by
  have := bounds_i64 w1
  exact runs_any o0 len0 cap0 A0 a1 w w0 (by omega) u0

end Go.Proofs.Ytfmfnmpibnddmab.classRuns
