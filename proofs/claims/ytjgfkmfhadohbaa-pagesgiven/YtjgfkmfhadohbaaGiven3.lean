/-
  PagesGiven answers true, whatever it is given.
-/
import Derived.Test.YtjgfkmfhadohbaaAwake3
import Derived.Test.YtjgfkmfhadohbaaOpens
import Derived.Test.YtjgfkmfhadohbaaOwn
import Derived.Deep.AppendLies
import Derived.Deep.RegionHeld3
namespace Go.Proofs.Ytjgfkmfhadohbaa
open Go.RowKit

/-- What was taken, and is still. -/
structure Given (xs : List Bool) (AT SZ : List Int) : Prop where
  len : xs.length = 64
  zero : xs[0]?.getD false = true
  same : SZ.length = AT.length
  held : ∀ t, t < AT.length → ∃ A Z : Nat, AT[t]?.getD 0 = A ∧ SZ[t]?.getD 0 = Z ∧ 1 ≤ A ∧ 1 ≤ Z ∧ A + Z ≤ 64 ∧ fullB xs A Z = true
theorem snoc_old (L : List Int) (x : Int) (t : Nat) (h : t < L.length) : (L ++ [x])[t]?.getD 0 = L[t]?.getD 0 := by rw [List.getElem?_append_left h]
theorem snoc_new (L : List Int) (x : Int) (t : Nat) (h : t = L.length) : (L ++ [x])[t]?.getD 0 = x := by subst h; simp
theorem full_put (xs : List Bool) (a k A Z : Nat) (hZ : 1 ≤ Z) (hl : a + k ≤ xs.length) (h : fullB xs A Z = true) : fullB (putR xs a k true) A Z = true := by
  refine (fullB_iff _ _ _ hZ).2 (fun t p q => ?_)
  have := (fullB_iff _ _ _ hZ).1 h t p q
  refine ⟨by rw [putR_length]; exact this.1, ?_⟩
  rw [putR_get xs a k true hl]
  split
  · rfl
  · exact this.2
theorem full_new (xs : List Bool) (a k : Nat) (hk : 1 ≤ k) (hl : a + k ≤ xs.length) : fullB (putR xs a k true) a k = true := by
  refine (fullB_iff _ _ _ hk).2 (fun t p q => ⟨by rw [putR_length]; omega, putR_in xs a k true hl t p q⟩)
theorem Given.more {xs : List Bool} {AT SZ : List Int} (h : Given xs AT SZ) {a k : Nat} (h0 : 1 ≤ a) (hk : 1 ≤ k) (hl : a + k ≤ 64) : Given (putR xs a k true) (AT ++ [(a : Int)]) (SZ ++ [(k : Int)]) := by
  have hx := h.len
  refine ⟨by rw [putR_length]; exact hx, by rw [putR_out xs a k true (by omega) 0 (by omega)]; exact h.zero, by simp [h.same], fun t ht => ?_⟩
  by_cases e : t < AT.length
  · obtain ⟨A, Z, e1, e2, e3, e4, e5, e6⟩ := h.held t e
    exact ⟨A, Z, by rw [snoc_old _ _ _ e]; exact e1, by rw [snoc_old _ _ _ (by rw [h.same]; exact e)]; exact e2, e3, e4, e5, full_put xs a k A Z e4 (by omega) e6⟩
  · have e' : t = AT.length := by simp at ht; omega
    exact ⟨a, k, snoc_new _ _ _ e', snoc_new _ _ _ (by rw [h.same]; exact e'), h0, hk, hl, full_new xs a k hk (by omega)⟩
/-- What is clear and what is full lie apart. -/
theorem apart_of {xs : List Bool} {a k A Z : Nat} (hk : 1 ≤ k) (hZ : 1 ≤ Z) (hc : Clear xs a k) (hf : fullB xs A Z = true) : A + Z ≤ a ∨ a + k ≤ A := by
  rcases Nat.lt_or_ge a (A + Z) with h1 | h1
  · rcases Nat.lt_or_ge A (a + k) with h2 | h2
    · have p := hc.2 (max a A) (by omega) (by omega)
      have q := ((fullB_iff _ _ _ hZ).1 hf (max a A) (by omega) (by omega)).2
      rw [p] at q; cases q
    · exact .inr h2
  · exact .inl h1
/-- Once it is given it can be taken, there or ahead of it. -/
theorem again_of {xs : List Bool} {A Z : Nat} (hZ : 1 ≤ Z) (hf : fullB xs A Z = true) : ∃ a : Nat, runR (putR xs A Z false) 0 Z = a ∧ a ≤ A ∧ a + Z ≤ xs.length := by
  have hl := fullB_len _ _ _ hf
  have hc : Clear (putR xs A Z false) A Z := ⟨by rw [putR_length]; exact hl, fun t p q => putR_in xs A Z false hl t p q⟩
  rcases runR_spec (putR xs A Z false) Z hZ _ 0 rfl with ⟨_, h⟩ | ⟨a, h1, _, h3, h4⟩
  · exact absurd hc (h A (by omega))
  · refine ⟨a, h1, ?_, by have := h3.1; rw [putR_length] at this; exact this⟩
    rcases Nat.lt_or_ge A a with h | h
    · exact absurd hc (h4 A (by omega) h)
    · exact h
theorem twice_of {xs : List Bool} {A Z : Nat} (hZ : 1 ≤ Z) (hf : fullB xs A Z = true) : fullB (putR xs A Z false) A Z = false :=
  fullB_no _ _ _ A (by omega) (by omega) (.inr (putR_in xs A Z false (fullB_len _ _ _ hf) A (by omega) (by omega)))

theorem own_keep {S : List Nat} {w w' : World} {base : Nat} {e : TypeId} {size : Nat} {v : Value} {n : Nat} {xs : List Value} (h : w.ownsRow base e size v n xs) (k : Keep S w w') (hS : ∀ x, x ∈ S → x < base) : w'.ownsRow base e size v n xs := by
  refine ⟨h.1, ?_⟩
  rcases h.2 with h | ⟨g, cap, cur, h1, h2, h3, h4⟩
  · exact .inl h
  · exact .inr ⟨g, cap, cur, h1, h2, k.blk h3 (fun e => by have := hS g e; omega), h4⟩
/-- Two slices lie in two blocks. -/
def Apart (la ls : Option Addr) : Prop := ∀ x y, la = some x → ls = some y → x.block ≠ y.block
theorem Apart.kept {la ls : Option Addr} (h : Apart la ls) (q c q' c' : Nat) : (Value.slice ls q c).ownBlock = none ∨ (Value.slice ls q c).ownBlock ≠ (Value.slice la q' c').ownBlock := by
  cases ls with
  | none => exact .inl rfl
  | some y =>
    cases la with
    | none => exact .inr (by simp [Value.ownBlock])
    | some x => exact .inr (by have := h x y rfl rfl; simp [Value.ownBlock]; omega)
theorem Apart.symm {la ls : Option Addr} (h : Apart la ls) : Apart ls la := fun x y hx hy e => h y x hy hx e.symm
theorem Apart.grown {la ls : Option Addr} {g q c H : Nat} (h : Apart la ls) (hg : (Value.slice la q c).ownBlock = some g ∨ g = H) (hl : ∀ y, ls = some y → y.block < H) : Apart (some ⟨g, 0, none⟩) ls := by
  intro x y hx hy e
  cases hx
  simp only at e
  rcases hg with hg | hg
  · cases la with
    | none => simp [Value.ownBlock] at hg
    | some z => simp [Value.ownBlock] at hg; exact h z y rfl hy (by omega)
  · have := hl y hy; omega
theorem own_at {w : World} {base : Nat} {e : TypeId} {la : Option Addr} {q c : Nat} {L : List Int} (h : w.ownsRow base e 1 (.slice la q c) q (ints L)) (hb : ∀ i : Nat, -9223372036854775808 ≤ L[i]?.getD 0 ∧ L[i]?.getD 0 ≤ 9223372036854775807) :
    IntsAt w la L ∧ L.length = q ∧ (∀ y, la = some y → base ≤ y.block ∧ y.block < w.heap.size) := by
  have hn : L.length = q := by have := h.1; rw [ints_length, Nat.mul_one] at this; exact this
  rcases own_ints h hb with ⟨h1, h2, _⟩ | ⟨g, cap, h1, _, h3, h4, h5⟩
  · cases h1; subst h2; exact ⟨IntsAt.nil _ _, hn, fun y hy => by cases hy⟩
  · cases h1; exact ⟨h5, hn, fun y hy => by cases hy; exact ⟨h3, h4⟩⟩
theorem Given.bdA {xs : List Bool} {AT SZ : List Int} (h : Given xs AT SZ) : ∀ i : Nat, -9223372036854775808 ≤ AT[i]?.getD 0 ∧ AT[i]?.getD 0 ≤ 9223372036854775807 := by
  intro i
  by_cases hi : i < AT.length
  · obtain ⟨A, Z, e1, e2, e3, e4, e5, _⟩ := h.held i hi
    rw [e1]; omega
  · rw [List.getElem?_eq_none (by omega)]; simp
theorem Given.bdS {xs : List Bool} {AT SZ : List Int} (h : Given xs AT SZ) : ∀ i : Nat, -9223372036854775808 ≤ SZ[i]?.getD 0 ∧ SZ[i]?.getD 0 ≤ 9223372036854775807 := by
  intro i
  by_cases hi : i < AT.length
  · obtain ⟨A, Z, e1, e2, e3, e4, e5, _⟩ := h.held i hi
    rw [e2]; omega
  · rw [List.getElem?_eq_none (by rw [h.same]; omega)]; simp

theorem grown_keep {w w' : World} {la : Option Addr} {q c : Nat} (hg : w.grownBy w' (Value.slice la q c).ownBlock) : Keep (la.toList.map (·.block)) w w' := by
  refine ⟨hg.os, hg.tape, hg.output, hg.size, fun k hk hS => hg.block k hk (fun e => hS ?_)⟩
  cases la with
  | none => simp [Value.ownBlock] at e
  | some x => simp [Value.ownBlock] at e; simp [e]
theorem blocks_ge {la : Option Addr} {base m : Nat} (h : ∀ y, la = some y → base ≤ y.block ∧ y.block < m) : ∀ x, x ∈ la.toList.map (·.block) → base ≤ x := by
  intro x hx
  cases la with
  | none => simp at hx
  | some y => simp at hx; subst hx; exact (h y rfl).1
theorem IsPages.keepB {S : List Nat} {w w' : World} {pb b g base : Nat} {xs : List Bool} (h : IsPages w pb b g xs) (k : Keep S w w') (hS : ∀ x, x ∈ S → base ≤ x) (hl : pb < base ∧ b < base ∧ g < base) : IsPages w' pb b g xs :=
  h.keep k (fun e => by have := hS _ e; omega) (fun e => by have := hS _ e; omega) (fun e => by have := hS _ e; omega)
theorem Keep.transB {S : List Nat} {w w1 w2 : World} {g base : Nat} (h : Keep [g] w w1) (k : Keep S w1 w2) (hS : ∀ x, x ∈ S → base ≤ x) (hl : w.heap.size ≤ base) : Keep [g] w w2 :=
  ((h.mono (T := g :: S) (by simp)).trans (k.mono (fun x hx => List.mem_cons_of_mem _ hx))).drop (fun x hx hlt => by
    rcases List.mem_cons.1 hx with e | e
    · simp [e]
    · have := hS x e; omega)

set_option maxRecDepth 100000 in
set_option maxHeartbeats 8000000 in
theorem given_any (ao : Option Addr) (n c wh : Nat) (A : Nat → Nat) (w : World) (hn : n ≤ 9223372036854775807) (hl : U8At w ao n A) (hwh : wh < 256) :
    Calls Try.prog 4 #[.slice ao n c, .int .u8 wh] w fun e w' => e = .returned (.bool true) ∧ Keep [] w w' := by
  obtain ⟨i0, hi, hz0, hz1, hz2⟩ := info_parts Try.infoInt
  have hI : Hid (Try.prog.info? 3 = some i0 ∧ i0.zero = some (.int .i64 0) ∧ i0.size = 1 ∧ i0.bytes = 8) := ⟨hi, hz0, hz1, hz2⟩
  clear hi hz0 hz1 hz2
  have F0 := (show Hid (Given (fresh 64) [] []) from ⟨fresh_length 64, by rw [fresh_get 64 0 (by omega)]; rfl, rfl, fun t h => by simp at h⟩)
  have f1 : 63 + cntA (fresh 64) = 64 := by decide +kernel
  have F1 := (show Hid (63 + cntA (fresh 64) = 64) from f1)
  clear f1
  have HN := (show Hid (U8At w ao n A) from hl)
  clear hl
  go_enter Try.func4, Try.ntmps4
  go_wp2_with fail
  refine (pnew_ok 64 w (by omega) (by omega)).mono ?_
  rintro e w1 ⟨pb, b, g, rfl, hA, hK, hp, hb, hg⟩
  have hc := hA.cell
  go_wp2_with (first | (go_at_call 9; refine (err_any _ _).mono ?_; rintro e w' ⟨rfl, rfl⟩))
  have l1 := hA.lt
  have hsz := hK.size
  obtain ⟨base, hbase⟩ : ∃ base, w1.heap.size = base := ⟨_, rfl⟩
  rw [hbase] at l1 hsz
  clear hc
  have N0 := (show Hid (w1.ownsRow base 3 1 (.slice none 0 0) 0 (ints [])) from World.ownsRow_nil w1 base 3 1)
  have P0 := (show Hid (Apart none none) from fun x y hx => by cases hx)
  go_loopw [7, 8, 9, 10] (fun va vs lf i wr => ∃ (j q L : Nat) (xs : List Bool) (AT SZ : List Int) (la ls : Option Addr) (ca cs : Nat), va = .slice la q ca ∧ vs = .slice ls q cs ∧ lf = .int .i64 L ∧ i = .int .i64 j ∧ j ≤ n ∧ j ≤ 20 ∧ q ≤ j ∧ L ≤ 63 ∧ IsPages wr pb b g xs ∧ Hid (L + cntA xs = 64) ∧ Hid (Given xs AT SZ) ∧ Hid (wr.ownsRow base 3 1 (.slice la q ca) q (ints AT)) ∧ Hid (wr.ownsRow base 3 1 (.slice ls q cs) q (ints SZ)) ∧ Hid (Apart la ls) ∧ Keep [g] w wr ∧ base ≤ wr.heap.size) (fun _ _ _ i _ => 20 - (intOf i).toNat)
  case atStart => exact ⟨0, 0, 63, _, [], [], none, none, 0, 0, rfl, rfl, rfl, rfl, by omega, by omega, by omega, by omega, hA, F1, F0, N0, N0, P0, hK.mono (by simp), by omega⟩
  case round =>
    obtain ⟨j, q, L, xs, AT, SZ, la, ls, ca, cs, rfl, rfl, rfl, rfl, hj, hj20, hqj, hL, hA2, HL, HG, HA, HS, HP, hK2, hsr⟩ := hrel
    clear hA hK F0 F1 N0 P0
    by_cases hlt2 : j < n ∧ j < 20
    · obtain ⟨hjn, hj2⟩ := hlt2
      obtain ⟨ab, off, rfl, hab, hcs⟩ := HN.out.cells (by omega)
      have hcb := (hK2.cell hab (by simp; omega) (off + j)).trans (hcs j hjn)
      have hlt8 := HN.out.lt j
      clear hcs
      generalize A j = kb at *
      obtain ⟨k, hk1, hk2, hk3⟩ : ∃ k : Nat, 1 + (kb : Int) % 9 = k ∧ 1 ≤ k ∧ k ≤ 9 := ⟨1 + kb % 9, by omega, by omega, by omega⟩
      rcases runR_spec xs k hk2 _ 0 rfl with ⟨hr, _⟩ | ⟨a, hr, _, hcl, _⟩
      · have HR := (show Hid (runR xs 0 k = -1) from hr)
        have hcc := hA2.cell
        clear hr
        go_wp2_with (first | (go_at_call 14; refine (ptake_no pb b g k _ _ hA2 hk2 (by omega) HR.out).mono ?_; rintro e w' ⟨rfl, rfl⟩) | (go_at_call 9; refine (err_any _ _).mono ?_; rintro e w' ⟨rfl, rfl⟩) | (go_at_call 20; refine (brun_core b g k 0 _ _ hA2.bits (by omega) hk2 (by omega)).mono ?_; rw [show (0 : Int).toNat = 0 from rfl, HR.out]; rintro e w' ⟨rfl, rfl⟩))
        go_roundw
        case rel => exact ⟨j + 1, q, L, xs, AT, SZ, la, ls, ca, cs, rfl, rfl, rfl, by go_num, by omega, by omega, by omega, hL, hA2, HL, HG, HA, HS, HP, hK2, hsr⟩
        case measure => simp [intOf]; omega
      · have HR := (show Hid (runR xs 0 k = a) from hr)
        have HC := (show Hid (Clear xs a k) from hcl)
        have hak : a + k ≤ 64 := by have := hcl.1; rw [HG.out.len] at this; exact this
        have ha1 : 1 ≤ a := by
          rcases Nat.eq_zero_or_pos a with h | h
          · subst h; have := hcl.2 0 (by omega) (by omega); rw [HG.out.zero] at this; cases this
          · exact h
        clear hr hcl
        go_wp2_with fail
        refine (ptake_yes pb b g k a _ _ hA2 hk2 HR.out (by rw [HG.out.len]; exact hak)).mono ?_
        rintro e w5 ⟨rfl, hA5, hK5⟩
        have HA5 := (show Hid (w5.ownsRow base 3 1 (.slice la q ca) q (ints AT)) from own_keep HA.out hK5 (by simp; omega))
        have HS5 := (show Hid (w5.ownsRow base 3 1 (.slice ls q cs) q (ints SZ)) from own_keep HS.out hK5 (by simp; omega))
        have HL5 := (show Hid (L - k + cntA (putR xs a k true) = 64) from by have h1 := HL.out; have h2 := cntA_put xs a k HC.out; have h3 := cntA_le (putR xs a k true); rw [putR_length, HG.out.len] at h3; show L - k + cntA (putR xs a k true) = 64; omega)
        have hLk : k ≤ L := by have h1 := HL.out; have h2 := cntA_put xs a k HC.out; have h3 := cntA_le (putR xs a k true); rw [putR_length, HG.out.len] at h3; omega
        have hK6 := hK2.trans hK5
        have hs5 := Nat.le_trans hsr hK5.size
        clear hA2 HA HS hK2 hK5
        obtain ⟨hIA, hqA, hbA⟩ := own_at HA5.out HG.out.bdA
        obtain ⟨hIS, hqS, hbS⟩ := own_at HS5.out HG.out.bdS
        have QA := (show Hid (AT.length = q) from hqA)
        have IA := (show Hid (IntsAt w5 la AT) from hIA)
        have IS := (show Hid (IntsAt w5 ls SZ) from hIS)
        have BA := (show Hid (∀ y, la = some y → base ≤ y.block ∧ y.block < w5.heap.size) from hbA)
        have BS := (show Hid (∀ y, ls = some y → base ≤ y.block ∧ y.block < w5.heap.size) from hbS)
        have QS := (show Hid (SZ.length = q) from hqS)
        clear hIA hqA hbA hIS hqS hbS
        go_wp2_with (first | (go_at_call 9; refine (err_any _ _).mono ?_; rintro e w' ⟨rfl, rfl⟩))
        go_loopw [14] (fun i wz => ∃ t : Nat, i = .int .i64 t ∧ t ≤ q ∧ Keep [] w5 wz) (fun i _ => q - (intOf i).toNat)
        case atStart => exact ⟨0, rfl, by omega, Keep.refl _ _⟩
        case round =>
          obtain ⟨t, rfl, ht, hKz⟩ := hrel
          by_cases htq : t < q
          · obtain ⟨A0, Z0, e1, e2, e3, e4, e5, e6⟩ := HG.out.held t (by rw [QA.out]; exact htq)
            have hap := apart_of hk2 e4 HC.out e6
            obtain ⟨ga, oa, rfl, hga, hca⟩ := (IA.out.keep hKz (fun _ _ _ => by simp)).cells (by rw [QA.out]; omega)
            obtain ⟨gs, os, rfl, hgs, hcs⟩ := (IS.out.keep hKz (fun _ _ _ => by simp)).cells (by rw [QS.out]; omega)
            have y1 := hca t (by rw [QA.out]; exact htq)
            have y2 := hcs t (by rw [QS.out]; exact htq)
            rw [e1] at y1
            rw [e2] at y2
            clear hca hcs e1 e2 e6
            rcases (show A0 + Z0 ≤ a ∨ a < A0 + Z0 ∧ a + k ≤ A0 by omega) with h1 | ⟨h0, h1⟩
            · have hd1 : decide ((a : Int) < (A0 : Int) + Z0) = false := by rw [decide_eq_false_iff_not]; omega
              clear hap
              go_wp2_with fail
              go_quiet (fail)
              go_wp2_with fail
              go_roundw
              case rel => exact ⟨t + 1, by go_num, by omega, hKz.trans (Keep.drewN [] _ _)⟩
              case measure => simp [intOf]; omega
            · have hd1 : decide ((a : Int) < (A0 : Int) + Z0) = true := by rw [decide_eq_true_iff]; omega
              have hd2 : decide ((A0 : Int) < (a : Int) + k) = false := by rw [decide_eq_false_iff_not]; omega
              clear hap
              go_wp2_with fail
              go_quiet (fail)
              go_wp2_with fail
              go_roundw
              case rel => exact ⟨t + 1, by go_num, by omega, hKz.trans (Keep.drewN [] _ _)⟩
              case measure => simp [intOf]; omega
          · obtain rfl : t = q := by omega
            have hA6 := hA5.keep hKz (by simp) (by simp) (by simp)
            have hK7 := hK6.trans (hKz.mono (by simp))
            have HA6 := (show Hid (wr.ownsRow base 3 1 (.slice la t ca) t (ints AT)) from own_keep HA5.out hKz (by simp))
            have HS6 := (show Hid (wr.ownsRow base 3 1 (.slice ls t cs) t (ints SZ)) from own_keep HS5.out hKz (by simp))
            have BA6 := (show Hid (∀ y, la = some y → base ≤ y.block ∧ y.block < wr.heap.size) from fun y hy => ⟨(BA.out y hy).1, Nat.lt_of_lt_of_le (BA.out y hy).2 hKz.size⟩)
            have BS6 := (show Hid (∀ y, ls = some y → base ≤ y.block ∧ y.block < wr.heap.size) from fun y hy => ⟨(BS.out y hy).1, Nat.lt_of_lt_of_le (BS.out y hy).2 hKz.size⟩)
            have hs6 := Nat.le_trans hs5 hKz.size
            clear hA5 hK6 hKz HA5 HS5 IA IS BA BS hs5
            have hLI : (L : Int) - k = ((L - k : Nat) : Int) := by omega
            obtain ⟨L', hL'⟩ : ∃ L', L' = L - k := ⟨_, rfl⟩
            rw [← hL'] at hLI HL5
            have hL9 : L' ≤ 63 := by omega
            clear hL'
            go_wp2_with (first | (at_builtin; refine wpList_append_lies _ rfl (.tmp 115) (.tmp 117) 48 rfl base 3 i0 (.int .i64 0) 1 8 Try.underlying48 hI.out.1 hI.out.2.1 hI.out.2.2.1 hI.out.2.2.2 rfl (by decide) _ t (ints AT) rfl (HA6.out.alloc _) ⟨wr.heap.size, 0, none⟩ 1 1 (ints [(a : Int)]) rfl rfl (one_cell _ _ _) (ints_one _) (by omega) (by unfold maxLen; omega) (by omega) (by simp; omega) (wr.heap.size + 1) (by simp) ?_; intro ga ca7 w7 hown7 hgrow7 hblk7 hlt7; rw [ints_app] at hown7; have HA7 := (show Hid (w7.ownsRow base 3 1 (.slice (some ⟨ga, 0, none⟩) (t + 1) ca7) (t + 1) (ints (AT ++ [(a : Int)]))) from hown7); have HS7 := (show Hid (w7.ownsRow base 3 1 (.slice ls t cs) t (ints SZ)) from (HS6.out.alloc _).kept hgrow7 (HP.out.kept t cs t ca)); have P7 := (show Hid (Apart (some ⟨ga, 0, none⟩) ls) from HP.out.grown hblk7 (fun y hy => Nat.lt_of_lt_of_le (BS6.out y hy).2 (Nat.le_succ _))); have G7 := (show Hid (Keep (la.toList.map (·.block)) wr w7) from ((Keep.alloc [] wr _).mono (by simp)).trans (grown_keep hgrow7)); have hs7 := G7.out.size; clear hown7 hgrow7 hblk7) | (at_builtin; refine wpList_append_lies _ rfl (.tmp 119) (.tmp 121) 48 rfl base 3 i0 (.int .i64 0) 1 8 Try.underlying48 hI.out.1 hI.out.2.1 hI.out.2.2.1 hI.out.2.2.2 rfl (by decide) _ t (ints SZ) rfl (HS7.out.alloc _) ⟨w7.heap.size, 0, none⟩ 1 1 (ints [(k : Int)]) rfl rfl (one_cell _ _ _) (ints_one _) (by omega) (by unfold maxLen; omega) (by omega) (by simp; omega) (w7.heap.size + 1) (by simp) ?_; intro gs cs8 w8 hown8 hgrow8 hblk8 hlt8; rw [ints_app] at hown8; have HS8 := (show Hid (w8.ownsRow base 3 1 (.slice (some ⟨gs, 0, none⟩) (t + 1) cs8) (t + 1) (ints (SZ ++ [(k : Int)]))) from hown8); have HA8 := (show Hid (w8.ownsRow base 3 1 (.slice (some ⟨ga, 0, none⟩) (t + 1) ca7) (t + 1) (ints (AT ++ [(a : Int)]))) from (HA7.out.alloc _).kept hgrow8 (P7.out.symm.kept (t + 1) ca7 t cs)); have P8 := (show Hid (Apart (some ⟨gs, 0, none⟩) (some ⟨ga, 0, none⟩)) from P7.out.symm.grown hblk8 (fun y hy => by cases hy; exact Nat.lt_succ_of_lt hlt7)); have G8 := (show Hid (Keep (ls.toList.map (·.block)) w7 w8) from ((Keep.alloc [] w7 _).mono (by simp)).trans (grown_keep hgrow8)); clear hown8 hgrow8 hblk8))
            have hA8 := (hA6.keepB G7.out (blocks_ge BA6.out) l1).keepB G8.out (blocks_ge BS6.out) l1
            have hK8 := (hK7.transB G7.out (blocks_ge BA6.out) hsz).transB G8.out (blocks_ge BS6.out) hsz
            have HG8 := (show Hid (Given (putR xs a k true) (AT ++ [(a : Int)]) (SZ ++ [(k : Int)])) from HG.out.more ha1 hk2 hak)
            have P9 := (show Hid (Apart (some ⟨ga, 0, none⟩) (some ⟨gs, 0, none⟩)) from P8.out.symm)
            have hs8 : base ≤ w8.heap.size := Nat.le_trans (Nat.le_trans hs6 hs7) G8.out.size
            go_roundw
            case rel => exact ⟨j + 1, t + 1, L', _, _, _, _, _, _, _, rfl, rfl, rfl, by go_num, by omega, by omega, by omega, by omega, hA8, HL5, HG8, HA8, HS8, P9, hK8, hs8⟩
            case measure => simp [intOf]; omega
    · obtain ⟨hIA, hqA, hbA⟩ := own_at HA.out HG.out.bdA
      obtain ⟨hIS, hqS, hbS⟩ := own_at HS.out HG.out.bdS
      have QA := (show Hid (AT.length = q) from hqA)
      have QS := (show Hid (SZ.length = q) from hqS)
      have IA := (show Hid (IntsAt wr la AT) from hIA)
      have IS := (show Hid (IntsAt wr ls SZ) from hIS)
      have BA := (show Hid (∀ y, la = some y → base ≤ y.block ∧ y.block < wr.heap.size) from hbA)
      have BS := (show Hid (∀ y, ls = some y → base ≤ y.block ∧ y.block < wr.heap.size) from hbS)
      have HE := (show Hid ((xs.length : Int) - cntA xs = L) from by have h1 := HL.out; have h2 := HG.out.len; show (xs.length : Int) - cntA xs = L; omega)
      clear hIA hqA hbA hIS hqS hbS HA HS
      rcases (show n ≤ j ∨ j < n ∧ j = 20 by omega) with hnj | ⟨hnj, hj2⟩
      all_goals
        rcases Nat.eq_zero_or_pos q with hq0 | hq0
        · subst hq0
          go_wp2_with (first | (go_at_call 16; refine (pleft_any pb b g _ _ hA2).mono ?_; rw [HE.out]; rintro e w5 ⟨rfl, hK5⟩) | (go_at_call 10; refine (awake3_any _).mono ?_; rintro e w9 ⟨rfl, hK9⟩))
          go_ret
          exact ⟨rfl, ((hK2.drop (T := []) (by simp; omega)).trans hK5).trans hK9⟩
        · have hr0 := Nat.mod_lt wh hq0
          obtain ⟨r, hr1, hr2⟩ : ∃ r : Nat, (wh : Int) % (q : Int) = r ∧ r < q := ⟨wh % q, by omega, hr0⟩
          obtain ⟨A0, Z0, e1, e2, e3, e4, e5, e6⟩ := HG.out.held r (by rw [QA.out]; exact hr2)
          obtain ⟨ga, oa, rfl, hga, hca⟩ := IA.out.cells (by rw [QA.out]; omega)
          obtain ⟨gs, os, rfl, hgs, hcs⟩ := IS.out.cells (by rw [QS.out]; omega)
          have y1 := hca r (by rw [QA.out]; exact hr2)
          have y2 := hcs r (by rw [QS.out]; exact hr2)
          rw [e1] at y1
          rw [e2] at y2
          have hga2 := (BA.out _ rfl).1
          have hgs2 := (BS.out _ rfl).1
          simp only at hga2 hgs2
          have F1 := (show Hid (fullB xs A0 Z0 = true) from e6)
          have F2 := (show Hid (fullB (putR xs A0 Z0 false) A0 Z0 = false) from twice_of e4 e6)
          obtain ⟨a2, f3, ha2, hl2⟩ := again_of e4 e6
          have F3 := (show Hid (runR (putR xs A0 Z0 false) 0 Z0 = a2) from f3)
          have F4 := (show Hid (a2 + Z0 ≤ (putR xs A0 Z0 false).length) from by show a2 + Z0 ≤ (putR xs A0 Z0 false).length; rw [putR_length]; exact hl2)
          have F5 := (show Hid (((putR xs A0 Z0 false).length : Int) - cntA (putR xs A0 Z0 false) = ((L + Z0 : Nat) : Int)) from by have h1 := HL.out; have h2 := HG.out.len; have h3 := cntA_take xs A0 Z0 e4 e6; show ((putR xs A0 Z0 false).length : Int) - cntA (putR xs A0 Z0 false) = ((L + Z0 : Nat) : Int); rw [putR_length]; omega)
          obtain ⟨L2, hL2⟩ : ∃ L2, L2 = L + Z0 := ⟨_, rfl⟩
          have hL3 : (L : Int) + Z0 = L2 := by omega
          rw [← hL2] at F5
          have hq1 : decide (q = 0) = false := by rw [decide_eq_false_iff_not]; omega
          have hal : decide ((a2 : Int) ≤ (A0 : Int)) = true := by rw [decide_eq_true_iff]; omega
          clear hca hcs e1 e2 e6 f3 hl2 hr0 hL2
          go_wp2_with (first | (go_at_call 16; refine (pleft_any pb b g _ _ hA2).mono ?_; rw [HE.out]; rintro e w5 ⟨rfl, hK5⟩; have hA5 := hA2.keep hK5 (by simp) (by simp) (by simp); have z1 := (hK5.cell hga (by simp) _).trans y1; have z2 := (hK5.cell hgs (by simp) _).trans y2; have hga5 := Nat.lt_of_lt_of_le hga hK5.size; have hgs5 := Nat.lt_of_lt_of_le hgs hK5.size))
          have hA6 := hA5.drew
          have hK6 := (hK2.trans (hK5.mono (by simp))).trans (Keep.drew [g] w5)
          have x1 : w5.drew.cell? ⟨ga, oa + r, none⟩ = some (.int .i64 A0) := z1
          have x2 : w5.drew.cell? ⟨gs, os + r, none⟩ = some (.int .i64 Z0) := z2
          have hga6 : ga < w5.drew.heap.size := hga5
          have hgs6 : gs < w5.drew.heap.size := hgs5
          have hneg : ga ≠ g ∧ gs ≠ g := by omega
          clear hA2 hK2 hA5 hK5 y1 y2 hga5 hgs5 hga hgs
          go_region_held3 (fun wz => wz.cell? ⟨ga, oa + r, none⟩ = some (.int .i64 A0) ∧ wz.cell? ⟨gs, os + r, none⟩ = some (.int .i64 Z0)) (go_keep) (first | (go_at_call 12; refine (pgive_yes pb b g A0 Z0 _ _ hA6 e3 e4 F1.out).mono ?_; rintro e w7 ⟨rfl, hA7, hK7⟩; have u1 := (hK7.cell hga6 (by simpa using hneg.1) (oa + r)).trans x1; have u2 := (hK7.cell hgs6 (by simpa using hneg.2) (os + r)).trans x2))
          have hga7 := Nat.lt_of_lt_of_le hga6 hK7.size
          have hgs7 := Nat.lt_of_lt_of_le hgs6 hK7.size
          have hK8 := hK6.trans hK7
          clear hA6 hK6 hK7 x1 x2 z1 z2 hga6 hgs6
          go_wp2_with fail
          have hA8 := hA7.drew
          have hK9 := hK8.trans (Keep.drew [g] w7)
          have x1 : w7.drew.cell? ⟨ga, oa + r, none⟩ = some (.int .i64 A0) := u1
          have x2 : w7.drew.cell? ⟨gs, os + r, none⟩ = some (.int .i64 Z0) := u2
          have hga8 : ga < w7.drew.heap.size := hga7
          have hgs8 : gs < w7.drew.heap.size := hgs7
          go_region_held3 (fun wz => wz.cell? ⟨ga, oa + r, none⟩ = some (.int .i64 A0) ∧ wz.cell? ⟨gs, os + r, none⟩ = some (.int .i64 Z0)) (go_keep) (first | (go_at_call 12; refine (pgive_no pb b g A0 Z0 _ _ hA8 e3 (by omega) e4 (by omega) F2.out).mono ?_; rintro e w' ⟨rfl, rfl⟩))
          clear hA7 hK8 u1 u2 hga7 hgs7
          generalize w7.drew = w8 at *
          go_wp2_with fail
          refine (pleft_any pb b g _ _ hA8).mono ?_
          rw [F5.out]
          rintro e w10 ⟨rfl, hK10⟩
          have hA10 := hA8.keep hK10 (by simp) (by simp) (by simp)
          have v1 := (hK10.cell hga8 (by simp) (oa + r)).trans x1
          have v2 := (hK10.cell hgs8 (by simp) (os + r)).trans x2
          have hga10 := Nat.lt_of_lt_of_le hga8 hK10.size
          have hgs10 := Nat.lt_of_lt_of_le hgs8 hK10.size
          have hK11 := hK9.trans (hK10.mono (by simp))
          clear hA8 hK9 hK10 x1 x2 hga8 hgs8
          go_wp2_with fail
          refine (ptake_yes pb b g Z0 a2 _ _ hA10 e4 F3.out F4.out).mono ?_
          rintro e w12 ⟨rfl, hA12, hK12⟩
          have x1 := (hK12.cell hga10 (by simpa using hneg.1) (oa + r)).trans v1
          have x2 := (hK12.cell hgs10 (by simpa using hneg.2) (os + r)).trans v2
          have hK13 := (hK11.trans hK12).drop (T := []) (by simp; omega)
          clear hA10 hA12 hK11 hK12 v1 v2 hga10 hgs10
          go_wp2_with (first | (go_at_call 14; refine (ptake_nil _ _).mono ?_; rintro e w' ⟨rfl, rfl⟩) | (go_at_call 9; refine (err_any _ _).mono ?_; rintro e w' ⟨rfl, rfl⟩) | (go_at_call 12; refine (pgive_nil _ _ _).mono ?_; rintro e w' ⟨rfl, rfl⟩) | (go_at_call 16; refine (pleft_nil _).mono ?_; rintro e w' ⟨rfl, rfl⟩) | (go_at_call 10; refine (awake3_any _).mono ?_; rintro e w14 ⟨rfl, hK14⟩))
          go_ret
          exact ⟨rfl, hK13.trans hK14⟩

end Go.Proofs.Ytjgfkmfhadohbaa

namespace Go.Proofs.Ytjgfkmfhadohbaa.pagesGiven
open Go.RowKit
theorem walk (o0 : Option Addr) (len0 cap0 : Nat) (A0 : Nat → Nat) (a1 : Int) (w0 : len0 ≤ 9223372036854775807) (w1 : (Lit.int .u8 a1).wf = true) (w : World) (u0 : U8At w o0 len0 A0) :
    Calls Try.prog 4 #[.slice o0 len0 cap0, .int .u8 a1] w fun e w' => e = .returned (.bool true) ∧ Keep [] w w' := by
  have h1 := bounds_u8 w1
  obtain ⟨f, rfl⟩ := Int.eq_ofNat_of_zero_le h1.1
  exact given_any o0 len0 cap0 f A0 w w0 u0 (by omega)
end Go.Proofs.Ytjgfkmfhadohbaa.pagesGiven
