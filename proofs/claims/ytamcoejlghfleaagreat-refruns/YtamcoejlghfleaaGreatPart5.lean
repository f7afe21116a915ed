/-
  Contracts of what the statement calls, one text behind the other (RSpaceAt, RSpaceFind, RSpaceEach, RSpaceUsed, RefBits, RSpaceFree, RSpaceNew, RefPages, RSpaceAlloc, RSpaceAllocS).
-/
import Derived.Test.YtamcoejlghfleaaGreatPart1
import Derived.Test.YtamcoejlghfleaaGreatPart2
import Derived.Deep.AppendLies
import Derived.Deep.RegionHeld3
import Derived.RegionTactic
import Derived.ChangeAlike
import Derived.Deep.CutRange
import Derived.Test.YtamcoejlghfleaaGreatPart3

/-
  The document's own space in memory: its block, its words, what its pages are, and what one write leaves of it.
-/
namespace Go.Proofs.YtamcoejlghfleaaGreat
open Go.RowKit

def PK.kind : PK → Int
  | .zero => -1
  | .free => 0
  | .small c _ => (c : Int) + 1
  | .part 0 _ => 6
  | .part _ _ => 7
def kindL (kd : List PK) : List Int := kd.map PK.kind
theorem kindL_length (kd : List PK) : (kindL kd).length = kd.length := by simp [kindL]
theorem kindL_get (kd : List PK) (p : Nat) : (kindL kd)[p]?.getD 0 = (kat kd p).kind := by
  unfold kindL kat
  rcases Nat.lt_or_ge p kd.length with h | h
  · simp [h]
  · rw [List.getElem?_eq_none (by simpa using h), List.getElem?_eq_none h]; rfl
/-- Where its blocks lie; r tells them apart. -/
structure RLay where
  gw : Nat
  gk : Nat
  gm : Nat
  gt : Nat
  T : Nat → Nat
  r : Nat → Nat
def PK.slot (q : Nat) : PK → Value
  | .small _ xs => .slice (some ⟨q, 0, none⟩) xs.length xs.length
  | _ => .slice none 0 0
def slots (L : RLay) (kd : List PK) : List Value := kd.mapIdx (fun p x => x.slot (L.T p))
theorem slots_length (L : RLay) (kd : List PK) : (slots L kd).length = kd.length := by simp [slots]
theorem slots_get (L : RLay) (kd : List PK) (p : Nat) (h : p < kd.length) : (slots L kd)[p]? = some ((kat kd p).slot (L.T p)) := by
  unfold slots; rw [List.getElem?_mapIdx, kat_get kd p h]; rfl
theorem ne_role {r : Nat → Nat} {a b m n : Nat} (h1 : r a = m) (h2 : r b = n) (h : m ≠ n) : a ≠ b := fun e => h (by rw [← h1, ← h2, e])

/-- Block mb is the document's space laid out as L, all of whose blocks are of F: its words, its kinds, its larger blocks, and of kd the blocks of its pages of a class. -/
structure RpAt (w : World) (mb : Nat) (L : RLay) (F : List Nat) (ws ks ms : List Int) (kd : List PK) : Prop where
  head : w.heap[mb]? = some (.cells #[.slice (some ⟨L.gw, 0, none⟩) (64 * kd.length) (64 * kd.length), .slice (some ⟨L.gk, 0, none⟩) kd.length kd.length, .slice (some ⟨L.gm, 0, none⟩) kd.length kd.length, .slice (some ⟨L.gt, 0, none⟩) kd.length kd.length] 101 (0, 0))
  rowW : Row w 3 L.gw ws
  rowK : Row w 3 L.gk ks
  rowM : Row w 3 L.gm ms
  rowT : w.heap[L.gt]? = some (.cells (slots L kd).toArray 124 (0, 0))
  page : ∀ p c xs, kat kd p = .small c xs → BRow w 4 (L.T p) xs
  lw : ws.length = 64 * kd.length
  lk : ks.length = kd.length
  lm : ms.length = kd.length
  r0 : L.r mb = 0
  r1 : L.r L.gw = 1
  r2 : L.r L.gk = 2
  r3 : L.r L.gm = 3
  r4 : L.r L.gt = 4
  rp : ∀ p c xs, kat kd p = .small c xs → L.r (L.T p) = 5 + p
  f : mb ∈ F ∧ L.gw ∈ F ∧ L.gk ∈ F ∧ L.gm ∈ F ∧ L.gt ∈ F
  fp : ∀ p c xs, kat kd p = .small c xs → L.T p ∈ F
  lt : ∀ k, k ∈ F → k < w.heap.size

theorem ltKeep {S F : List Nat} {w w' : World} (h : ∀ k, k ∈ F → k < w.heap.size) (K : Keep S w w') : ∀ k, k ∈ F → k < w'.heap.size := fun k hk => Nat.lt_of_lt_of_le (h k hk) K.size

section
variable {S F : List Nat} {w w' : World} {mb : Nat} {L : RLay} {ws ks ms : List Int} {kd : List PK}

theorem RpAt.keep (h : RpAt w mb L F ws ks ms kd) (K : Keep S w w') (hS : ∀ k, k ∈ F → k ∉ S) : RpAt w' mb L F ws ks ms kd := by
  obtain ⟨f0, f1, f2, f3, f4⟩ := h.f
  exact { h with
    head := K.blk h.head (hS _ f0), rowW := h.rowW.keep K (hS _ f1), rowK := h.rowK.keep K (hS _ f2), rowM := h.rowM.keep K (hS _ f3), rowT := K.blk h.rowT (hS _ f4),
    page := fun p c xs e => (h.page p c xs e).keep K (hS _ (h.fp p c xs e)), lt := ltKeep h.lt K }
theorem RpAt.keep0 (h : RpAt w mb L F ws ks ms kd) (K : Keep [] w w') : RpAt w' mb L F ws ks ms kd := h.keep K (by simp)
theorem RpAt.c0 (h : RpAt w mb L F ws ks ms kd) : w.cell? ⟨mb, 0, none⟩ = some (.slice (some ⟨L.gw, 0, none⟩) (64 * kd.length) (64 * kd.length)) := by simp [World.cell?, h.head]
theorem RpAt.c1 (h : RpAt w mb L F ws ks ms kd) : w.cell? ⟨mb, 1, none⟩ = some (.slice (some ⟨L.gk, 0, none⟩) kd.length kd.length) := by simp [World.cell?, h.head]
theorem RpAt.c2 (h : RpAt w mb L F ws ks ms kd) : w.cell? ⟨mb, 2, none⟩ = some (.slice (some ⟨L.gm, 0, none⟩) kd.length kd.length) := by simp [World.cell?, h.head]
theorem RpAt.c3 (h : RpAt w mb L F ws ks ms kd) : w.cell? ⟨mb, 3, none⟩ = some (.slice (some ⟨L.gt, 0, none⟩) kd.length kd.length) := by simp [World.cell?, h.head]
theorem RpAt.cw (h : RpAt w mb L F ws ks ms kd) {p : Nat} (hp : p < 64 * kd.length) : w.cell? ⟨L.gw, p, none⟩ = some (.int .i64 (ws[p]?.getD 0)) := h.rowW.cell (by rw [h.lw]; exact hp)
theorem RpAt.ck (h : RpAt w mb L F ws ks ms kd) {p : Nat} (hp : p < kd.length) : w.cell? ⟨L.gk, p, none⟩ = some (.int .i64 (ks[p]?.getD 0)) := h.rowK.cell (by rw [h.lk]; exact hp)
theorem RpAt.cm (h : RpAt w mb L F ws ks ms kd) {p : Nat} (hp : p < kd.length) : w.cell? ⟨L.gm, p, none⟩ = some (.int .i64 (ms[p]?.getD 0)) := h.rowM.cell (by rw [h.lm]; exact hp)
theorem RpAt.ct (h : RpAt w mb L F ws ks ms kd) {p : Nat} (hp : p < kd.length) : w.cell? ⟨L.gt, p, none⟩ = some ((kat kd p).slot (L.T p)) := by
  have := slots_get L kd p hp
  simp [World.cell?, h.rowT, this]
theorem RpAt.ft (h : RpAt w mb L F ws ks ms kd) (p : Nat) : w.frozen? ⟨L.gt, p, none⟩ = false := by simp [World.frozen?, h.rowT]

/-- A word, a kind, a number of pages is written. -/
theorem RpAt.setW (h : RpAt w mb L F ws ks ms kd) (i : Nat) (x : Int) : RpAt (w.setCell ⟨L.gw, i, none⟩ (.int .i64 x)) mb L F (ws.set i x) ks ms kd := by
  have K : Keep [L.gw] w (w.setCell ⟨L.gw, i, none⟩ (.int .i64 x)) := Keep.setCell w _ (by simp)
  have n : ∀ {y m : Nat}, L.r y = m → m ≠ 1 → y ∉ [L.gw] := fun h1 h2 => by simpa using ne_role h1 h.r1 h2
  exact { h with
    head := K.blk h.head (n h.r0 (by omega)), rowW := h.rowW.put i x, rowK := h.rowK.keep K (n h.r2 (by omega)), rowM := h.rowM.keep K (n h.r3 (by omega)), rowT := K.blk h.rowT (n h.r4 (by omega)),
    page := fun p c xs e => (h.page p c xs e).keep K (n (h.rp p c xs e) (by omega)), lw := by simpa using h.lw, lt := ltKeep h.lt K }
theorem RpAt.setK (h : RpAt w mb L F ws ks ms kd) (i : Nat) (x : Int) : RpAt (w.setCell ⟨L.gk, i, none⟩ (.int .i64 x)) mb L F ws (ks.set i x) ms kd := by
  have K : Keep [L.gk] w (w.setCell ⟨L.gk, i, none⟩ (.int .i64 x)) := Keep.setCell w _ (by simp)
  have n : ∀ {y m : Nat}, L.r y = m → m ≠ 2 → y ∉ [L.gk] := fun h1 h2 => by simpa using ne_role h1 h.r2 h2
  exact { h with
    head := K.blk h.head (n h.r0 (by omega)), rowW := h.rowW.keep K (n h.r1 (by omega)), rowK := h.rowK.put i x, rowM := h.rowM.keep K (n h.r3 (by omega)), rowT := K.blk h.rowT (n h.r4 (by omega)),
    page := fun p c xs e => (h.page p c xs e).keep K (n (h.rp p c xs e) (by omega)), lk := by simpa using h.lk, lt := ltKeep h.lt K }
theorem RpAt.setM (h : RpAt w mb L F ws ks ms kd) (i : Nat) (x : Int) : RpAt (w.setCell ⟨L.gm, i, none⟩ (.int .i64 x)) mb L F ws ks (ms.set i x) kd := by
  have K : Keep [L.gm] w (w.setCell ⟨L.gm, i, none⟩ (.int .i64 x)) := Keep.setCell w _ (by simp)
  have n : ∀ {y m : Nat}, L.r y = m → m ≠ 3 → y ∉ [L.gm] := fun h1 h2 => by simpa using ne_role h1 h.r3 h2
  exact { h with
    head := K.blk h.head (n h.r0 (by omega)), rowW := h.rowW.keep K (n h.r1 (by omega)), rowK := h.rowK.keep K (n h.r2 (by omega)), rowM := h.rowM.put i x, rowT := K.blk h.rowT (n h.r4 (by omega)),
    page := fun p c xs e => (h.page p c xs e).keep K (n (h.rp p c xs e) (by omega)), lm := by simpa using h.lm, lt := ltKeep h.lt K }
theorem slots_same (L : RLay) (kd kd' : List PK) (hl : kd'.length = kd.length) (h : ∀ p, p < kd.length → (kat kd' p).slot (L.T p) = (kat kd p).slot (L.T p)) : slots L kd' = slots L kd := by
  apply List.ext_getElem?
  intro p
  rcases Nat.lt_or_ge p kd.length with hp | hp
  · rw [slots_get L kd p hp, slots_get L kd' p (by omega), h p hp]
  · rw [List.getElem?_eq_none (by rw [slots_length]; omega), List.getElem?_eq_none (by rw [slots_length]; omega)]
/-- What pages of no class are told for is turned: no memory is. -/
theorem RpAt.other {kd' : List PK} (h : RpAt w mb L F ws ks ms kd) (hl : kd'.length = kd.length) (hs : ∀ q, kat kd' q = kat kd q ∨ (∀ c xs, kat kd' q ≠ .small c xs) ∧ (∀ c xs, kat kd q ≠ .small c xs)) : RpAt w mb L F ws ks ms kd' := by
  have back : ∀ q d zs, kat kd' q = .small d zs → kat kd q = .small d zs := by
    intro q d zs e
    rcases hs q with e' | ⟨e', _⟩
    · rw [← e']; exact e
    · exact absurd e (e' d zs)
  exact { h with
    head := by rw [hl]; exact h.head
    rowT := by
      rw [slots_same L kd kd' hl (fun q _ => by
        rcases hs q with e | ⟨e1, e2⟩
        · rw [e]
        · have t : ∀ y : PK, (∀ c xs, y ≠ .small c xs) → y.slot (L.T q) = .slice none 0 0 := by
            intro y hy
            cases y with
            | small c xs => exact absurd rfl (hy c xs)
            | _ => rfl
          rw [t _ e1, t _ e2])]
      exact h.rowT
    page := fun q d zs e => h.page q d zs (back q d zs e)
    lw := by rw [hl]; exact h.lw
    lk := by rw [hl]; exact h.lk
    lm := by rw [hl]; exact h.lm
    rp := fun q d zs e => h.rp q d zs (back q d zs e)
    fp := fun q d zs e => h.fp q d zs (back q d zs e) }
/-- A block of a page of a class is written. -/
theorem RpAt.inner {p c i : Nat} {xs : List Bool} {b : Bool} (h : RpAt w mb L F ws ks ms kd) (hk : kat kd p = .small c xs) : RpAt (w.setCell ⟨L.T p, i, none⟩ (.bool b)) mb L F ws ks ms (kd.set p (.small c (xs.set i b))) := by
  have hp := kat_lt kd p (by rw [hk]; simp)
  have K : Keep [L.T p] w (w.setCell ⟨L.T p, i, none⟩ (.bool b)) := Keep.setCell w _ (by simp)
  have rp := h.rp p c xs hk
  have n : ∀ {y m : Nat}, L.r y = m → m ≠ 5 + p → y ∉ [L.T p] := fun h1 h2 => by simpa using ne_role h1 rp h2
  have back : ∀ q d zs, kat (kd.set p (.small c (xs.set i b))) q = .small d zs → q = p ∧ d = c ∧ zs = xs.set i b ∨ q ≠ p ∧ kat kd q = .small d zs := by
    intro q d zs e
    rw [kat_set _ _ _ _ hp] at e
    split at e
    · cases e; exact .inl ⟨by assumption, rfl, rfl⟩
    · exact .inr ⟨by assumption, e⟩
  exact { h with
    head := by rw [List.length_set]; exact K.blk h.head (n h.r0 (by omega))
    rowW := h.rowW.keep K (n h.r1 (by omega))
    rowK := h.rowK.keep K (n h.r2 (by omega))
    rowM := h.rowM.keep K (n h.r3 (by omega))
    rowT := by
      rw [slots_same L kd (kd.set p (.small c (xs.set i b))) (by simp) (fun q hq => by
        rw [kat_set _ _ _ _ hp]
        split
        · rename_i e; subst e; rw [hk]; simp [PK.slot]
        · rfl)]
      exact K.blk h.rowT (n h.r4 (by omega))
    page := fun q d zs e => by
      rcases back q d zs e with ⟨rfl, rfl, rfl⟩ | ⟨hne, e'⟩
      · exact (h.page q d xs hk).put i b
      · have := h.rp q d zs e'
        exact (h.page q d zs e').keep K (n this (by omega))
    lw := by rw [List.length_set]; exact h.lw
    lk := by rw [List.length_set]; exact h.lk
    lm := by rw [List.length_set]; exact h.lm
    rp := fun q d zs e => by
      rcases back q d zs e with ⟨rfl, rfl, rfl⟩ | ⟨_, e'⟩
      · exact h.rp q d xs hk
      · exact h.rp q d zs e'
    fp := fun q d zs e => by
      rcases back q d zs e with ⟨rfl, rfl, rfl⟩ | ⟨_, e'⟩
      · exact h.fp q d xs hk
      · exact h.fp q d zs e'
    lt := ltKeep h.lt K }
/-- A page is of no class any more. -/
theorem RpAt.drop {p c : Nat} {xs : List Bool} (h : RpAt w mb L F ws ks ms kd) (hk : kat kd p = .small c xs) : RpAt (w.setCell ⟨L.gt, p, none⟩ (.slice none 0 0)) mb L F ws ks ms (kd.set p .free) := by
  have hp := kat_lt kd p (by rw [hk]; simp)
  have K : Keep [L.gt] w (w.setCell ⟨L.gt, p, none⟩ (.slice none 0 0)) := Keep.setCell w _ (by simp)
  have n : ∀ {y m : Nat}, L.r y = m → m ≠ 4 → y ∉ [L.gt] := fun h1 h2 => by simpa using ne_role h1 h.r4 h2
  have back : ∀ q d zs, kat (kd.set p .free) q = .small d zs → kat kd q = .small d zs := by
    intro q d zs e
    rw [kat_set _ _ _ _ hp] at e
    split at e
    · cases e
    · exact e
  exact { h with
    head := by rw [List.length_set]; exact K.blk h.head (n h.r0 (by omega))
    rowW := h.rowW.keep K (n h.r1 (by omega))
    rowK := h.rowK.keep K (n h.r2 (by omega))
    rowM := h.rowM.keep K (n h.r3 (by omega))
    rowT := by
      have := heap_setCell_same w L.gt p (slots L kd).toArray 124 (.slice none 0 0) h.rowT
      have e : (slots L kd).set p (.slice none 0 0) = slots L (kd.set p .free) := by
        apply List.ext_getElem?
        intro q
        rcases Nat.lt_or_ge q kd.length with hq | hq
        · rw [slots_get L (kd.set p .free) q (by simpa using hq), kat_set _ _ _ _ hp]
          by_cases e : q = p
          · subst e; simp [slots_length, hq, PK.slot]
          · rw [if_neg e, List.getElem?_set_ne (fun e' => e e'.symm), slots_get L kd q hq]
        · rw [List.getElem?_eq_none (by simpa [slots_length] using hq), List.getElem?_eq_none (by simpa [slots_length] using hq)]
      rw [← e]
      simpa using this
    page := fun q d zs e => by
      have e' := back q d zs e
      exact (h.page q d zs e').keep K (n (h.rp q d zs e') (by omega))
    lw := by rw [List.length_set]; exact h.lw
    lk := by rw [List.length_set]; exact h.lk
    lm := by rw [List.length_set]; exact h.lm
    rp := fun q d zs e => h.rp q d zs (back q d zs e)
    fp := fun q d zs e => h.fp q d zs (back q d zs e)
    lt := ltKeep h.lt K }
/-- A page is of a class from now on: one new block. -/
def RLay.more (L : RLay) (p q : Nat) : RLay := { L with T := fun i => if i = p then q else L.T i, r := fun k => if k = q then 5 + p else L.r k }
theorem RpAt.gain {p c q : Nat} {xs : List Bool} (h : RpAt w mb L F ws ks ms kd) (hp : p < kd.length) (hA : BRow w 4 q xs) (hn : q ∉ F) :
    RpAt (w.setCell ⟨L.gt, p, none⟩ (.slice (some ⟨q, 0, none⟩) xs.length xs.length)) mb (L.more p q) (q :: F) ws ks ms (kd.set p (.small c xs)) := by
  have K : Keep [L.gt] w (w.setCell ⟨L.gt, p, none⟩ (.slice (some ⟨q, 0, none⟩) xs.length xs.length)) := Keep.setCell w _ (by simp)
  have n : ∀ {y m : Nat}, L.r y = m → m ≠ 4 → y ∉ [L.gt] := fun h1 h2 => by simpa using ne_role h1 h.r4 h2
  obtain ⟨f0, f1, f2, f3, f4⟩ := h.f
  have nf : ∀ {x : Nat}, x ∈ F → x ≠ q := fun a e => hn (e ▸ a)
  have old : ∀ {x : Nat}, x ∈ F → (L.more p q).r x = L.r x := fun hx => if_neg (nf hx)
  have Tp : (L.more p q).T p = q := if_pos rfl
  have Tq : ∀ i, i ≠ p → (L.more p q).T i = L.T i := fun i e => if_neg e
  have mq : (L.more p q).r q = 5 + p := if_pos rfl
  have back : ∀ i d zs, kat (kd.set p (.small c xs)) i = .small d zs → i = p ∧ d = c ∧ zs = xs ∨ i ≠ p ∧ kat kd i = .small d zs := by
    intro i d zs e
    rw [kat_set _ _ _ _ hp] at e
    split at e
    · cases e; exact .inl ⟨by assumption, rfl, rfl⟩
    · exact .inr ⟨by assumption, e⟩
  have up : ∀ {x : Nat}, x ∈ F → x ∈ q :: F := fun hx => List.mem_cons_of_mem _ hx
  exact {
    head := by rw [List.length_set]; exact K.blk h.head (n h.r0 (by omega))
    rowW := h.rowW.keep K (n h.r1 (by omega))
    rowK := h.rowK.keep K (n h.r2 (by omega))
    rowM := h.rowM.keep K (n h.r3 (by omega))
    rowT := by
      have := heap_setCell_same w L.gt p (slots L kd).toArray 124 (.slice (some ⟨q, 0, none⟩) xs.length xs.length) h.rowT
      have e : (slots L kd).set p (.slice (some ⟨q, 0, none⟩) xs.length xs.length) = slots (L.more p q) (kd.set p (.small c xs)) := by
        apply List.ext_getElem?
        intro i
        rcases Nat.lt_or_ge i kd.length with hq | hq
        · rw [slots_get _ (kd.set p (.small c xs)) i (by simpa using hq), kat_set _ _ _ _ hp]
          by_cases e : i = p
          · subst e; rw [if_pos rfl, Tp]; simp [slots_length, hq, PK.slot]
          · rw [if_neg e, Tq i e, List.getElem?_set_ne (fun e' => e e'.symm), slots_get L kd i hq]
        · rw [List.getElem?_eq_none (by simpa [slots_length] using hq), List.getElem?_eq_none (by simpa [slots_length] using hq)]
      rw [← e]
      rw [show ((slots L kd).toArray.setIfInBounds p (.slice (some ⟨q, 0, none⟩) xs.length xs.length)) = ((slots L kd).set p (.slice (some ⟨q, 0, none⟩) xs.length xs.length)).toArray from by simp] at this
      exact this
    page := fun i d zs e => by
      rcases back i d zs e with ⟨rfl, rfl, rfl⟩ | ⟨hne, e'⟩
      · rw [Tp]
        exact hA.keep K (by simpa using fun e => nf f4 e.symm)
      · rw [Tq i hne]
        exact (h.page i d zs e').keep K (n (h.rp i d zs e') (by omega))
    lw := by rw [List.length_set]; exact h.lw
    lk := by rw [List.length_set]; exact h.lk
    lm := by rw [List.length_set]; exact h.lm
    r0 := (old f0).trans h.r0
    r1 := (old f1).trans h.r1
    r2 := (old f2).trans h.r2
    r3 := (old f3).trans h.r3
    r4 := (old f4).trans h.r4
    rp := fun i d zs e => by
      rcases back i d zs e with ⟨rfl, rfl, rfl⟩ | ⟨hne, e'⟩
      · rw [Tp]; exact mq
      · rw [Tq i hne]; exact (old (h.fp i d zs e')).trans (h.rp i d zs e')
    f := ⟨up f0, up f1, up f2, up f3, up f4⟩
    fp := fun i d zs e => by
      rcases back i d zs e with ⟨rfl, rfl, rfl⟩ | ⟨hne, e'⟩
      · rw [Tp]; simp
      · rw [Tq i hne]; exact up (h.fp i d zs e')
    lt := by
      intro k hk
      have hz : (w.setCell ⟨L.gt, p, none⟩ (.slice (some ⟨q, 0, none⟩) xs.length xs.length)).heap.size = w.heap.size := by simp [World.setCell]
      rw [hz]
      rcases List.mem_cons.1 hk with rfl | hk
      · exact hA.lt
      · exact h.lt k hk }
end

/-- The document's space whose rows are what its pages are. -/
def IsRef (w : World) (mb : Nat) (F : List Nat) (ws : List Int) (kd : List PK) : Prop := ∃ L, RpAt w mb L F ws (kindL kd) (bigL kd) kd
theorem IsRef.keep {S F : List Nat} {w w' : World} {mb : Nat} {ws : List Int} {kd : List PK} (h : IsRef w mb F ws kd) (K : Keep S w w') (hS : ∀ k, k ∈ F → k ∉ S) : IsRef w' mb F ws kd := by
  obtain ⟨L, h⟩ := h; exact ⟨L, h.keep K hS⟩
theorem IsRef.keep0 {F : List Nat} {w w' : World} {mb : Nat} {ws : List Int} {kd : List PK} (h : IsRef w mb F ws kd) (K : Keep [] w w') : IsRef w' mb F ws kd := h.keep K (by simp)
theorem IsRef.lt {F : List Nat} {w : World} {mb : Nat} {ws : List Int} {kd : List PK} (h : IsRef w mb F ws kd) : ∀ k, k ∈ F → k < w.heap.size := by
  obtain ⟨L, h⟩ := h; exact h.lt

end Go.Proofs.YtamcoejlghfleaaGreat

/-
  fill, pages and Find of the document's own space.
-/
namespace Go.Proofs.YtamcoejlghfleaaGreat
open Go.RowKit

theorem fill0_step (ws : List Int) (a m : Nat) (h : a + m < ws.length) : (fill0 ws a m).set (a + m) 0 = fill0 ws a (m + 1) := by
  refine eq_of_getD (by rw [List.length_set, fill0_length _ _ _ (by omega), fill0_length _ _ _ (by omega)]) (fun t => ?_)
  rw [fill0_get _ _ _ _ (by omega)]
  by_cases e : t = a + m
  · subst e; rw [set_get_same _ _ _ (by rw [fill0_length _ _ _ (by omega)]; exact h), if_pos (by omega)]
  · rw [set_get_other _ _ _ _ (fun e' => e e'.symm), fill0_get _ _ _ _ (by omega)]
    by_cases e2 : a ≤ t ∧ t < a + m
    · rw [if_pos e2, if_pos (by omega)]
    · rw [if_neg e2, if_neg (by omega)]
theorem fill0_zero (ws : List Int) (a : Nat) : fill0 ws a 0 = ws := by simp [fill0]

set_option maxHeartbeats 1000000 in
theorem rfill_any (mb a n : Nat) (L : RLay) (F : List Nat) (ws ks ms : List Int) (kd : List PK) (w : World) (h : RpAt w mb L F ws ks ms kd) (hl : a + n ≤ 64 * kd.length) (hn : kd.length ≤ 256) :
    Calls Tryz.prog 87 #[.pointer (some ⟨mb, 0, none⟩), .int .i64 a, .int .i64 n] w fun e w' => e = .returned (.tuple #[]) ∧ RpAt w' mb L F (fill0 ws a n) ks ms kd ∧ Keep [L.gw] w w' := by
  have HLW := (show Hid (ws.length = 64 * kd.length) from h.lw)
  obtain ⟨m, hm⟩ : ∃ m, 64 * kd.length = m := ⟨_, rfl⟩
  have HM := (show Hid (64 * kd.length = m) from hm)
  have hmb : m ≤ 16384 := by omega
  rw [hm] at hl
  have hsum : (a : Int) + n = ((a + n : Nat) : Int) := by omega
  obtain ⟨z, hz⟩ : ∃ z, a + n = z := ⟨_, rfl⟩
  rw [hz] at hsum
  clear hm hn
  go_enter Tryz.func87, Tryz.ntmps87
  go_wp2
  go_loopw [6] (fun i wr => ∃ j : Nat, i = .int .i64 j ∧ a ≤ j ∧ j ≤ z ∧ RpAt wr mb L F (fill0 ws a (j - a)) ks ms kd ∧ Keep [L.gw] w wr) (fun i _ => z - (intOf i).toNat)
  case atStart => exact ⟨a, rfl, by omega, by omega, by rw [Nat.sub_self, fill0_zero]; exact h, Keep.refl _ _⟩
  case round =>
    obtain ⟨j, rfl, hj1, hj2, hR, hK⟩ := hrel
    by_cases hlt : j < z
    · have c0 := hR.c0
      rw [HM.out] at c0
      have cw := hR.cw (p := j) (by rw [HM.out]; omega)
      have fw := hR.rowW.free j
      have hR2 := hR.setW j 0
      have hjj : a + (j - a) = j := by omega
      have e : (fill0 ws a (j - a)).set j 0 = fill0 ws a (j + 1 - a) := by
        have := fill0_step ws a (j - a) (by rw [HLW.out, HM.out]; omega)
        rw [hjj] at this
        rw [this, show j - a + 1 = j + 1 - a by omega]
      rw [e] at hR2
      have HR2 := (show Hid (RpAt (wr.setCell ⟨L.gw, j, none⟩ (.int .i64 0)) mb L F (fill0 ws a (j + 1 - a)) ks ms kd) from hR2)
      have HK2 := (show Hid (Keep [L.gw] w (wr.setCell ⟨L.gw, j, none⟩ (.int .i64 0))) from hK.trans (Keep.setCell _ _ (by simp)))
      clear hR hR2 e hK
      go_wp2
      go_roundw
      case rel => exact ⟨j + 1, by go_num, by omega, by omega, HR2.out, HK2.out⟩
      case measure => simp [intOf]; omega
    · obtain rfl : j = z := by omega
      have HR := (show Hid (RpAt wr mb L F (fill0 ws a n) ks ms kd) from by rw [show j - a = n by omega] at hR; exact hR)
      clear hR
      go_wp2
      go_end0
      exact ⟨rfl, HR.out, hK⟩

theorem kind_taken (x : PK) : decide (x.kind ≠ 0) = x.taken := by
  cases x with
  | small c xs => exact decide_eq_true (by show (c : Int) + 1 ≠ 0; omega)
  | part j k => cases j <;> rfl
  | _ => rfl
theorem kind_eq0 (x : PK) : (x.kind = 0 ∧ x.taken = false) ∨ (x.kind ≠ 0 ∧ x.taken = true) := by
  have := kind_taken x
  by_cases e : x.kind = 0
  · rw [decide_eq_false (by simpa using e)] at this; exact .inl ⟨e, this.symm⟩
  · rw [decide_eq_true e] at this; exact .inr ⟨e, this.symm⟩

set_option maxHeartbeats 1000000 in
theorem rpages_ok (mb : Nat) (L : RLay) (F : List Nat) (ws ms : List Int) (kd : List PK) (w : World) (h : RpAt w mb L F ws (kindL kd) ms kd) (h1 : 1 ≤ kd.length) (hn : kd.length ≤ 256) :
    Calls Tryz.prog 85 #[.pointer (some ⟨mb, 0, none⟩)] w fun e w' => ∃ g, e = .returned (.slice (some ⟨g, 0, none⟩) kd.length kd.length) ∧ BRow w' 4 g (takenL kd) ∧ Keep [] w w' ∧ w.heap.size ≤ g := by
  obtain ⟨n, hn'⟩ : ∃ n, kd.length = n := ⟨_, rfl⟩
  have HN := (show Hid (kd.length = n) from hn')
  rw [hn'] at h1 hn ⊢
  have c1 := h.c1
  rw [hn'] at c1
  have hmk : ∀ w, (Instr.makeSlice 124 (.int .i64 (n : Int)) (.int .i64 (n : Int))).run Tryz.prog w = .ok (.slice (some ⟨w.heap.size, 0, none⟩) n n) (w.alloc (.cells (madeCells #[.bool false] n) 4)) :=
    fun w => run_make_row' (P := Tryz.prog) 124 4 (.bool false) 1 Tryz.underlying124 Tryz.infoBool rfl .i64 .i64 n (by omega) (by omega) w
  have hR := BRow.made w 4 n
  have hK := Keep.alloc [] w (.cells (madeCells #[.bool false] n) 4)
  have hz : (w.alloc (.cells (madeCells #[.bool false] n) 4)).heap.size = w.heap.size + 1 := by simp
  have HM := (show Hid (RpAt w mb L F ws (kindL kd) ms kd) from h)
  clear hn' h
  go_enter Tryz.func85, Tryz.ntmps85
  go_wp2
  obtain ⟨g, hg⟩ : ∃ g, w.heap.size = g := ⟨_, rfl⟩
  rw [hg] at hR ⊢
  generalize w.alloc (.cells (madeCells #[.bool false] n) 4) = w1 at *
  clear hmk c1 hz
  go_loopw [4] (fun i wr => ∃ (j : Nat) (xs : List Bool), i = .int .i64 j ∧ j ≤ n ∧ Hid (xs.length = n) ∧ Hid (∀ t, t < j → xs[t]?.getD false = (kat kd t).taken) ∧ BRow wr 4 g xs ∧ Keep [g] w wr) (fun i _ => n - (intOf i).toNat)
  case atStart => exact ⟨0, _, rfl, by omega, offs_length n, fun t h => by omega, hR, hK.mono (by simp)⟩
  case round =>
    obtain ⟨j, xs, rfl, hj, HL, HJ, hR2, hK2⟩ := hrel
    obtain ⟨w2, rfl⟩ : ∃ w2, w2 = wr := ⟨_, rfl⟩
    clear hR hK
    by_cases hlt : j < n
    · have hF : ∀ k, k ∈ F → k ∉ [g] := fun k e => by have := HM.out.lt k e; simp; omega
      have hM2 := HM.out.keep hK2 hF
      have c1 := hM2.c1
      rw [HN.out] at c1
      have ck := hM2.ck (p := j) (by rw [HN.out]; exact hlt)
      rw [kindL_get] at ck
      have cb := hR2.cell (i := j) (by rw [HL.out]; exact hlt)
      have fb := hR2.free j
      rcases kind_eq0 (kat kd j) with ⟨e1, e2⟩ | ⟨e1, e2⟩
      · rw [e1] at ck
        have hR3 := hR2.put j false
        have HR3 := (show Hid (BRow (w2.setCell ⟨g, j, none⟩ (.bool false)) 4 g (xs.set j false)) from hR3)
        have HK3 := (show Hid (Keep [g] w (w2.setCell ⟨g, j, none⟩ (.bool false))) from hK2.trans (Keep.setCell _ _ (by simp)))
        have HT := (show Hid ((kat kd j).taken = false) from e2)
        clear hM2 hR2 hR3 hK2 e1 e2
        go_wp2
        go_roundw
        case rel =>
          refine ⟨j + 1, xs.set j false, by go_num, by omega, by show _ = _; rw [List.length_set]; exact HL.out, fun t ht => ?_, HR3.out, HK3.out⟩
          by_cases e : t = j
          · subst e; rw [bset_same _ _ _ (by rw [HL.out]; exact hlt), HT.out]
          · rw [bset_other _ _ _ _ (fun e' => e e'.symm)]; exact HJ.out t (by omega)
        case measure => simp [intOf]; omega
      · generalize (kat kd j).kind = kv at *
        have hkd : decide (kv = 0) = false := by rw [decide_eq_false_iff_not]; exact e1
        have hkb : (kv != 0) = true := by simpa using e1
        have hR3 := hR2.put j true
        have HR3 := (show Hid (BRow (w2.setCell ⟨g, j, none⟩ (.bool true)) 4 g (xs.set j true)) from hR3)
        have HK3 := (show Hid (Keep [g] w (w2.setCell ⟨g, j, none⟩ (.bool true))) from hK2.trans (Keep.setCell _ _ (by simp)))
        have HT := (show Hid ((kat kd j).taken = true) from e2)
        clear hM2 hR2 hR3 hK2 e2
        go_wp2
        go_roundw
        case rel =>
          refine ⟨j + 1, xs.set j true, by go_num, by omega, by show _ = _; rw [List.length_set]; exact HL.out, fun t ht => ?_, HR3.out, HK3.out⟩
          by_cases e : t = j
          · subst e; rw [bset_same _ _ _ (by rw [HL.out]; exact hlt), HT.out]
          · rw [bset_other _ _ _ _ (fun e' => e e'.symm)]; exact HJ.out t (by omega)
        case measure => simp [intOf]; omega
    · obtain rfl : j = n := by omega
      have HE := (show Hid (BRow w2 4 g (takenL kd)) from by
        have : xs = takenL kd := beq_of_getD (by rw [HL.out, takenL_length, HN.out]) (fun t => by
          rw [takenL_get]
          by_cases ht : t < j
          · exact HJ.out t ht
          · rw [List.getElem?_eq_none (by rw [HL.out]; omega), kat_out kd t (by rw [HN.out]; omega)]; rfl)
        rw [← this]; exact hR2)
      have HK3 := (show Hid (Keep [] w w2) from hK2.drop (fun k e hlt => by simp at e; omega))
      clear hR2 hK2
      go_wp2
      go_ret
      exact ⟨g, rfl, HE.out, HK3.out, by omega⟩

/-- What the document's Find hands back. -/
def foundA : Option (Nat × Nat) → Value
  | some (s, n) => .agg #[.int .i64 s, .int .i64 n, .bool true]
  | none => .agg #[.int .i64 0, .int .i64 0, .bool false]
/-- A result of three cells, laid down in a block of its own. -/
theorem three_set {w : World} {bx : Nat} {t : TypeId} {v0 v1 v2 a b c : Value} (h : w.heap[bx]? = some (.cells #[v0, v1, v2] t (0, 0))) :
    (((w.setCell ⟨bx, 0, none⟩ a).setCell ⟨bx, 1, none⟩ b).setCell ⟨bx, 2, none⟩ c).heap[bx]? = some (.cells #[a, b, c] t (0, 0)) := by
  have z1 := heap_setCell_same w bx 0 _ _ a h
  have z2 := heap_setCell_same _ bx 1 _ _ b z1
  have z3 := heap_setCell_same _ bx 2 _ _ c z2
  simpa using z3

theorem Keep.three {w w2 : World} {bx : Nat} {a b c : Value} (h : Keep [] w w2) (hb : w.heap.size = bx) : Keep [] w (((w2.setCell ⟨bx, 0, none⟩ a).setCell ⟨bx, 1, none⟩ b).setCell ⟨bx, 2, none⟩ c) :=
  ((((h.mono (T := [bx]) (by simp)).trans (Keep.setCell _ _ (by simp))).trans (Keep.setCell _ _ (by simp))).trans (Keep.setCell _ _ (by simp))).drop (fun k e hlt => by simp at e; omega)
set_option maxHeartbeats 2000000 in
theorem rfind_out (mb gw n : Nat) (a : Int) (w : World) (hc0 : w.cell? ⟨mb, 0, none⟩ = some (.slice (some ⟨gw, 0, none⟩) n n)) (hmb : mb < w.heap.size) (h : ¬ (0 ≤ a ∧ a < n)) :
    Calls Tryz.prog 67 #[.pointer (some ⟨mb, 0, none⟩), .int .i64 a] w fun e w' => e = .returned (.agg #[.int .i64 0, .int .i64 0, .bool false]) ∧ Keep [] w w' := by
  have hx := heap_alloc_new w (.cells #[.int .i64 0, .int .i64 0, .bool false] 118)
  have hK := Keep.alloc [] w (.cells #[.int .i64 0, .int .i64 0, .bool false] 118)
  have hc1 := (hK.cell hmb (by simp) 0).trans hc0
  rcases (show a < 0 ∨ 0 ≤ a ∧ (n : Int) ≤ a by omega) with h1 | ⟨h0, h1⟩
  · have hd : decide (a < 0) = true := by rw [decide_eq_true_iff]; exact h1
    clear hc1 hc0
    go_enter Tryz.func67, Tryz.ntmps67
    go_wp2
    refine bodyPost_ret (results_cell_row rfl _ _ w.heap.size 118 #[.int .i64 0, .int .i64 0, .bool false] (0, 0) _ rfl (heap_alloc_new w _) Tryz.underlying118 rfl (by kernel_rfl)) rfl ?_
    exact ⟨rfl, hK⟩
  · have hd : decide (a < 0) = false := by rw [decide_eq_false_iff_not]; omega
    have hd2 : decide ((n : Int) ≤ a) = true := by rw [decide_eq_true_iff]; exact h1
    go_enter Tryz.func67, Tryz.ntmps67
    go_wp2
    refine bodyPost_ret (results_cell_row rfl _ _ w.heap.size 118 #[.int .i64 0, .int .i64 0, .bool false] (0, 0) _ rfl (heap_alloc_new w _) Tryz.underlying118 rfl (by kernel_rfl)) rfl ?_
    exact ⟨rfl, hK⟩
set_option maxHeartbeats 2000000 in
theorem rfind_small (mb a p n m gw gk gt q c s i r : Nat) (xs : List Bool) (w : World) (hlt : mb < w.heap.size ∧ gk < w.heap.size ∧ gt < w.heap.size ∧ q < w.heap.size)
    (hc0 : w.cell? ⟨mb, 0, none⟩ = some (.slice (some ⟨gw, 0, none⟩) m m)) (hc1 : w.cell? ⟨mb, 1, none⟩ = some (.slice (some ⟨gk, 0, none⟩) n n)) (hc3 : w.cell? ⟨mb, 3, none⟩ = some (.slice (some ⟨gt, 0, none⟩) n n))
    (hck : w.cell? ⟨gk, p, none⟩ = some (.int .i64 ((c : Int) + 1))) (hct : w.cell? ⟨gt, p, none⟩ = some (.slice (some ⟨q, 0, none⟩) xs.length xs.length)) (hR : BRow w 4 q xs) (hp : p < n) (ham : a < m) (hm : m ≤ 16384) (hc : c < 5) (hs : sz c = s)
    (h1 : (a : Int) / 64 = p) (h2 : (a : Int).tdiv 64 = p) (h3 : (a : Int) % 64 = r) (h4 : (a : Int).tmod 64 = r) (h5 : (r : Int) / s = i) (h6 : (r : Int).tdiv s = i) (hs0 : (s : Int) ≠ 0) (hi : i < xs.length) (hib : i ≤ 32) (hsb : s ≤ 32) :
    Calls Tryz.prog 67 #[.pointer (some ⟨mb, 0, none⟩), .int .i64 a] w fun e w' => e = .returned (if xs[i]?.getD false = true then .agg #[.int .i64 ((64 * p + i * s : Nat) : Int), .int .i64 s, .bool true] else .agg #[.int .i64 0, .int .i64 0, .bool false]) ∧ Keep [] w w' := by
  have hx := heap_alloc_new w (.cells #[.int .i64 0, .int .i64 0, .bool false] 118)
  have hK := Keep.alloc [] w (.cells #[.int .i64 0, .int .i64 0, .bool false] 118)
  have d0 := (hK.cell hlt.1 (by simp) 0).trans hc0
  have d1 := (hK.cell hlt.1 (by simp) 1).trans hc1
  have d2 := (hK.cell hlt.2.1 (by simp) p).trans hck
  have HT := (show Hid (∀ w', Keep [] w w' → w'.cell? ⟨mb, 3, none⟩ = some (.slice (some ⟨gt, 0, none⟩) n n) ∧ w'.cell? ⟨gt, p, none⟩ = some (.slice (some ⟨q, 0, none⟩) xs.length xs.length) ∧ w'.cell? ⟨q, i, none⟩ = some (.bool (xs[i]?.getD false))) from fun w' k =>
    ⟨(k.cell hlt.1 (by simp) 3).trans hc3, (k.cell hlt.2.2.1 (by simp) p).trans hct, (hR.keep k (by simp)).cell hi⟩)
  have HSL := (show Hid (sizesL[c]?.getD 0 = (s : Nat)) from by show _ = _; rw [← hs]; exact (sz_facts c hc).1)
  have hw1 : IntKind.i64.wrap ((r : Int).tdiv s) = i := by rw [h6]; exact IntWalk.i64_in _ (by omega)
  have hw2 : IntKind.i64.wrap ((r : Int) / s) = i := by rw [h5]; exact IntWalk.i64_in _ (by omega)
  obtain ⟨y, hy⟩ : ∃ y : Nat, i * s = y := ⟨_, rfl⟩
  have hyb : y ≤ 32 * 32 := by rw [← hy]; exact Nat.mul_le_mul hib hsb
  have hyi : (i : Int) * (s : Int) = y := by rw [← hy]; exact (Int.natCast_mul i s).symm
  have hyw : IntKind.i64.wrap ((i : Int) * s) = y := by rw [hyi]; exact IntWalk.i64_in _ (by omega)
  have HA := (show Hid ((p : Int) * 64 + y = ((64 * p + i * s : Nat) : Int)) from by show _ = _; rw [hy]; omega)
  have HI := (show Hid (i < xs.length) from hi)
  have hda : decide ((a : Int) < 0) = false := by rw [decide_eq_false_iff_not]; omega
  have hdb : decide ((m : Int) ≤ (a : Int)) = false := by rw [decide_eq_false_iff_not]; omega
  have hdc : decide ((1 : Int) ≤ (c : Int) + 1) = true := by rw [decide_eq_true_iff]; omega
  have hdd : decide ((c : Int) + 1 ≤ 5) = true := by rw [decide_eq_true_iff]; omega
  have hcc : (c : Int) + 1 - 1 = c := by omega
  obtain ⟨xl, hxl⟩ : ∃ xl, xs.length = xl := ⟨_, rfl⟩
  rw [hxl] at HT HI
  have hil : i < xl := HI.out
  cases hv : xs[i]?.getD false
  · rw [if_neg (by simp)]
    rw [hv] at HT
    clear hv hc0 hc1 hc3 hck hct hR hs hy hxl hi
    go_enter Tryz.func67, Tryz.ntmps67
    go_wp2_with fail
    refine (rsizes_any _).mono ?_
    rintro e w2 ⟨gz, rfl, hr, hK2, hgz⟩
    have hxz := hr.cell (i := c) hc
    rw [HSL.out] at hxz
    have hK3 := hK.trans hK2
    obtain ⟨t1, t2, t3⟩ := HT.out _ hK3
    have hx2 := hK2.blk hx (by simp)
    obtain ⟨bx, hbx⟩ : ∃ bx, w.heap.size = bx := ⟨_, rfl⟩
    rw [hbx] at hx2 ⊢
    have f0 : w2.frozen? ⟨bx, 0, none⟩ = false := by simp [World.frozen?, hx2]
    have f1 : w2.frozen? ⟨bx, 1, none⟩ = false := by simp [World.frozen?, hx2]
    have f2 : w2.frozen? ⟨bx, 2, none⟩ = false := by simp [World.frozen?, hx2]
    have g0 : w2.cell? ⟨bx, 0, none⟩ = some (.int .i64 0) := by simp [World.cell?, hx2]
    have g1 : w2.cell? ⟨bx, 1, none⟩ = some (.int .i64 0) := by simp [World.cell?, hx2]
    have g2 : w2.cell? ⟨bx, 2, none⟩ = some (.bool false) := by simp [World.cell?, hx2]
    have hltx : mb < bx ∧ gk < bx ∧ gt < bx ∧ q < bx := by omega
    have HKF := (show Hid (∀ a b c, Keep [] w (((w2.setCell ⟨bx, 0, none⟩ a).setCell ⟨bx, 1, none⟩ b).setCell ⟨bx, 2, none⟩ c)) from fun a b c => Keep.three hK3 hbx)
    go_wp2
    refine bodyPost_ret (results_cell_row rfl _ _ bx 118 #[.int .i64 0, .int .i64 0, .bool false] (0, 0) _ rfl (three_set hx2) Tryz.underlying118 rfl (by kernel_rfl)) rfl ?_
    exact ⟨rfl, HKF.out _ _ _⟩
  · rw [if_pos rfl, ← HA.out]
    rw [hv] at HT
    clear hv hc0 hc1 hc3 hck hct hR hs hy hxl hi
    go_enter Tryz.func67, Tryz.ntmps67
    go_wp2_with fail
    refine (rsizes_any _).mono ?_
    rintro e w2 ⟨gz, rfl, hr, hK2, hgz⟩
    have hxz := hr.cell (i := c) hc
    rw [HSL.out] at hxz
    have hK3 := hK.trans hK2
    obtain ⟨t1, t2, t3⟩ := HT.out _ hK3
    have hx2 := hK2.blk hx (by simp)
    obtain ⟨bx, hbx⟩ : ∃ bx, w.heap.size = bx := ⟨_, rfl⟩
    rw [hbx] at hx2 ⊢
    have f0 : w2.frozen? ⟨bx, 0, none⟩ = false := by simp [World.frozen?, hx2]
    have f1 : w2.frozen? ⟨bx, 1, none⟩ = false := by simp [World.frozen?, hx2]
    have f2 : w2.frozen? ⟨bx, 2, none⟩ = false := by simp [World.frozen?, hx2]
    have g0 : w2.cell? ⟨bx, 0, none⟩ = some (.int .i64 0) := by simp [World.cell?, hx2]
    have g1 : w2.cell? ⟨bx, 1, none⟩ = some (.int .i64 0) := by simp [World.cell?, hx2]
    have g2 : w2.cell? ⟨bx, 2, none⟩ = some (.bool false) := by simp [World.cell?, hx2]
    have hltx : mb < bx ∧ gk < bx ∧ gt < bx ∧ q < bx := by omega
    have HKF := (show Hid (∀ a b c, Keep [] w (((w2.setCell ⟨bx, 0, none⟩ a).setCell ⟨bx, 1, none⟩ b).setCell ⟨bx, 2, none⟩ c)) from fun a b c => Keep.three hK3 hbx)
    go_wp2
    refine bodyPost_ret (results_cell_row rfl _ _ bx 118 #[.int .i64 ((p : Int) * 64 + y), .int .i64 s, .bool true] (0, 0) _ rfl (three_set hx2) Tryz.underlying118 rfl (by kernel_rfl)) rfl ?_
    exact ⟨rfl, HKF.out _ _ _⟩

set_option maxHeartbeats 2000000 in
/-- A page that is of no class: down to where its larger block begins, if it is of one. -/
theorem rfind_down (mb a p n m gw gk gm : Nat) (v : Nat → Int) (k : Int) (q : Nat) (w : World) (hlt : mb < w.heap.size ∧ gk < w.heap.size ∧ gm < w.heap.size)
    (hc0 : w.cell? ⟨mb, 0, none⟩ = some (.slice (some ⟨gw, 0, none⟩) m m)) (hc1 : w.cell? ⟨mb, 1, none⟩ = some (.slice (some ⟨gk, 0, none⟩) n n)) (hc2 : w.cell? ⟨mb, 2, none⟩ = some (.slice (some ⟨gm, 0, none⟩) n n))
    (hck : ∀ t, t < n → w.cell? ⟨gk, t, none⟩ = some (.int .i64 (v t))) (hcm : w.cell? ⟨gm, q, none⟩ = some (.int .i64 k)) (hp : p < n) (hn : n ≤ 256) (ham : a < m) (h1 : (a : Int) / 64 = p) (h2 : (a : Int).tdiv 64 = p)
    (hv0 : v p < 1 ∨ 5 < v p) (hqp : q ≤ p) (hv : ∀ t, q < t → t ≤ p → v t = 7) (hq : v q ≠ 7) (hk : 0 ≤ k ∧ k ≤ 300) :
    Calls Tryz.prog 67 #[.pointer (some ⟨mb, 0, none⟩), .int .i64 a] w fun e w' => e = .returned (if v q = 6 then .agg #[.int .i64 ((64 * q : Nat) : Int), .int .i64 (k * 64), .bool true] else .agg #[.int .i64 0, .int .i64 0, .bool false]) ∧ Keep [] w w' := by
  have hx := heap_alloc_new w (.cells #[.int .i64 0, .int .i64 0, .bool false] 118)
  have hK := Keep.alloc [] w (.cells #[.int .i64 0, .int .i64 0, .bool false] 118)
  have d0 := (hK.cell hlt.1 (by simp) 0).trans hc0
  have d1 := (hK.cell hlt.1 (by simp) 1).trans hc1
  have d2 := (hK.cell hlt.1 (by simp) 2).trans hc2
  have d3 := (hK.cell hlt.2.1 (by simp) p).trans (hck p hp)
  have d4 := (hK.cell hlt.2.2 (by simp) q).trans hcm
  have HCK := (show Hid (∀ t, t < n → (w.alloc (.cells #[.int .i64 0, .int .i64 0, .bool false] 118)).cell? ⟨gk, t, none⟩ = some (.int .i64 (v t))) from fun t ht => (hK.cell hlt.2.1 (by simp) t).trans (hck t ht))
  have hda : decide ((a : Int) < 0) = false := by rw [decide_eq_false_iff_not]; omega
  have hdb : decide ((m : Int) ≤ (a : Int)) = false := by rw [decide_eq_false_iff_not]; omega
  have HV := (show Hid (∀ t, q < t → t ≤ p → v t = 7) from hv)
  have HA := (show Hid ((q : Int) * 64 = ((64 * q : Nat) : Int)) from by show _ = _; omega)
  obtain ⟨bx, hbx⟩ : ∃ bx, w.heap.size = bx := ⟨_, rfl⟩
  rw [hbx] at hx hlt
  obtain ⟨vp, hvp⟩ : ∃ vp, v p = vp := ⟨_, rfl⟩
  rw [hvp] at d3 hv0
  obtain ⟨vq, hvq⟩ : ∃ vq, v q = vq := ⟨_, rfl⟩
  have HVQ := (show Hid (v q = vq) from hvq)
  rw [hvq] at hq ⊢
  clear hc0 hc1 hc2 hck hcm hv hvp hvq
  have fin : ∀ (res : Value), (if vq = 6 then Value.agg #[.int .i64 ((64 * q : Nat) : Int), .int .i64 (k * 64), .bool true] else .agg #[.int .i64 0, .int .i64 0, .bool false]) = res →
      Calls Tryz.prog 67 #[.pointer (some ⟨mb, 0, none⟩), .int .i64 a] w fun e w' => e = .returned res ∧ Keep [] w w' := by
    intro res hres
    have HRES := (show Hid ((if vq = 6 then Value.agg #[.int .i64 ((64 * q : Nat) : Int), .int .i64 (k * 64), .bool true] else .agg #[.int .i64 0, .int .i64 0, .bool false]) = res) from hres)
    clear hres
    rcases hv0 with hv0 | hv0
    · have hdc : decide ((1 : Int) ≤ vp) = false := by rw [decide_eq_false_iff_not]; omega
      go_enter Tryz.func67, Tryz.ntmps67
      go_wp2
      generalize w.alloc (.cells #[.int .i64 0, .int .i64 0, .bool false] 118) = w1 at *
      have f0 : w1.frozen? ⟨bx, 0, none⟩ = false := by simp [World.frozen?, hx]
      have f1 : w1.frozen? ⟨bx, 1, none⟩ = false := by simp [World.frozen?, hx]
      have f2 : w1.frozen? ⟨bx, 2, none⟩ = false := by simp [World.frozen?, hx]
      have g0 : w1.cell? ⟨bx, 0, none⟩ = some (.int .i64 0) := by simp [World.cell?, hx]
      have g1 : w1.cell? ⟨bx, 1, none⟩ = some (.int .i64 0) := by simp [World.cell?, hx]
      have g2 : w1.cell? ⟨bx, 2, none⟩ = some (.bool false) := by simp [World.cell?, hx]
      have HKF := (show Hid (∀ a b c, Keep [] w (((w1.setCell ⟨bx, 0, none⟩ a).setCell ⟨bx, 1, none⟩ b).setCell ⟨bx, 2, none⟩ c)) from fun a b c => Keep.three hK hbx)
      go_loop [5] (fun i => ∃ j : Nat, i = .int .i64 j ∧ q ≤ j ∧ j ≤ p) (fun i => (intOf i).toNat)
      case atStart => exact ⟨p, rfl, hqp, by omega⟩
      case round =>
        obtain ⟨j, rfl, hqj, hjp⟩ := hrel
        by_cases hqlt : q < j
        · have hxj := HCK.out j (by omega)
          rw [HV.out j hqlt hjp] at hxj
          go_wp2
          go_round
          case rel => exact ⟨j - 1, by go_num, by omega, by omega⟩
          case measure => simp [intOf]; omega
        · obtain rfl : j = q := by omega
          have hxj := HCK.out j (by omega)
          rw [HVQ.out] at hxj
          have hd7 : decide (vq = 7) = false := by rw [decide_eq_false_iff_not]; exact hq
          have hjj : j = 0 ∨ 0 < j := by omega
          by_cases h6 : vq = 6
          · have hr := HRES.out
            rw [if_pos h6, ← HA.out] at hr
            have HR := (show Hid (Value.agg #[.int .i64 ((j : Int) * 64), .int .i64 (k * 64), .bool true] = res) from hr)
            clear hr
            subst h6
            rcases hjj with rfl | hj0
            all_goals
              go_wp2
              refine bodyPost_ret (results_cell_row rfl _ _ bx 118 #[_, .int .i64 (k * 64), .bool true] (0, 0) _ rfl (three_set hx) Tryz.underlying118 rfl (by kernel_rfl)) rfl ?_
              exact ⟨by have h := HR.out; first | (rw [← h]; done) | (rw [← h]; rfl), HKF.out _ _ _⟩
          · have hr := HRES.out
            rw [if_neg h6] at hr
            have HR := (show Hid (Value.agg #[.int .i64 0, .int .i64 0, .bool false] = res) from hr)
            have hd6 : decide (vq = 6) = false := by rw [decide_eq_false_iff_not]; exact h6
            clear hr
            rcases hjj with rfl | hj0
            all_goals
              go_wp2
              refine bodyPost_ret (results_cell_row rfl _ _ bx 118 #[.int .i64 0, .int .i64 0, .bool false] (0, 0) _ rfl (three_set hx) Tryz.underlying118 rfl (by kernel_rfl)) rfl ?_
              exact ⟨by have h := HR.out; first | (rw [← h]; done) | (rw [← h]; rfl), HKF.out _ _ _⟩
    · have hdc : decide ((1 : Int) ≤ vp) = true := by rw [decide_eq_true_iff]; omega
      have hdd : decide (vp ≤ 5) = false := by rw [decide_eq_false_iff_not]; omega
      go_enter Tryz.func67, Tryz.ntmps67
      go_wp2
      generalize w.alloc (.cells #[.int .i64 0, .int .i64 0, .bool false] 118) = w1 at *
      have f0 : w1.frozen? ⟨bx, 0, none⟩ = false := by simp [World.frozen?, hx]
      have f1 : w1.frozen? ⟨bx, 1, none⟩ = false := by simp [World.frozen?, hx]
      have f2 : w1.frozen? ⟨bx, 2, none⟩ = false := by simp [World.frozen?, hx]
      have g0 : w1.cell? ⟨bx, 0, none⟩ = some (.int .i64 0) := by simp [World.cell?, hx]
      have g1 : w1.cell? ⟨bx, 1, none⟩ = some (.int .i64 0) := by simp [World.cell?, hx]
      have g2 : w1.cell? ⟨bx, 2, none⟩ = some (.bool false) := by simp [World.cell?, hx]
      have HKF := (show Hid (∀ a b c, Keep [] w (((w1.setCell ⟨bx, 0, none⟩ a).setCell ⟨bx, 1, none⟩ b).setCell ⟨bx, 2, none⟩ c)) from fun a b c => Keep.three hK hbx)
      go_loop [5] (fun i => ∃ j : Nat, i = .int .i64 j ∧ q ≤ j ∧ j ≤ p) (fun i => (intOf i).toNat)
      case atStart => exact ⟨p, rfl, hqp, by omega⟩
      case round =>
        obtain ⟨j, rfl, hqj, hjp⟩ := hrel
        by_cases hqlt : q < j
        · have hxj := HCK.out j (by omega)
          rw [HV.out j hqlt hjp] at hxj
          go_wp2
          go_round
          case rel => exact ⟨j - 1, by go_num, by omega, by omega⟩
          case measure => simp [intOf]; omega
        · obtain rfl : j = q := by omega
          have hxj := HCK.out j (by omega)
          rw [HVQ.out] at hxj
          have hd7 : decide (vq = 7) = false := by rw [decide_eq_false_iff_not]; exact hq
          have hjj : j = 0 ∨ 0 < j := by omega
          by_cases h6 : vq = 6
          · have hr := HRES.out
            rw [if_pos h6, ← HA.out] at hr
            have HR := (show Hid (Value.agg #[.int .i64 ((j : Int) * 64), .int .i64 (k * 64), .bool true] = res) from hr)
            clear hr
            subst h6
            rcases hjj with rfl | hj0
            all_goals
              go_wp2
              refine bodyPost_ret (results_cell_row rfl _ _ bx 118 #[_, .int .i64 (k * 64), .bool true] (0, 0) _ rfl (three_set hx) Tryz.underlying118 rfl (by kernel_rfl)) rfl ?_
              exact ⟨by have h := HR.out; first | (rw [← h]; done) | (rw [← h]; rfl), HKF.out _ _ _⟩
          · have hr := HRES.out
            rw [if_neg h6] at hr
            have HR := (show Hid (Value.agg #[.int .i64 0, .int .i64 0, .bool false] = res) from hr)
            have hd6 : decide (vq = 6) = false := by rw [decide_eq_false_iff_not]; exact h6
            clear hr
            rcases hjj with rfl | hj0
            all_goals
              go_wp2
              refine bodyPost_ret (results_cell_row rfl _ _ bx 118 #[.int .i64 0, .int .i64 0, .bool false] (0, 0) _ rfl (three_set hx) Tryz.underlying118 rfl (by kernel_rfl)) rfl ?_
              exact ⟨by have h := HR.out; first | (rw [← h]; done) | (rw [← h]; rfl), HKF.out _ _ _⟩
  exact fin _ rfl

theorem kind_small (x : PK) (h : ∀ c xs, x ≠ .small c xs) : x.kind < 1 ∨ 5 < x.kind := by
  cases x with
  | small c xs => exact absurd rfl (h c xs)
  | part j k => cases j <;> simp [PK.kind]
  | _ => simp [PK.kind]
theorem down_facts {kd : List PK} (h : WF kd) (p : Nat) (hs : ∀ c xs, kat kd p ≠ .small c xs) (a : Nat) (ha : a / 64 = p) :
    ∃ q, q ≤ p ∧ (∀ t, q < t → t ≤ p → (kat kd t).kind = 7) ∧ (kat kd q).kind ≠ 7 ∧ 0 ≤ (kat kd q).big ∧ (kat kd q).big ≤ 300 ∧
      (if (kat kd q).kind = 6 then Value.agg #[.int .i64 ((64 * q : Nat) : Int), .int .i64 ((kat kd q).big * 64), .bool true] else .agg #[.int .i64 0, .int .i64 0, .bool false]) = foundA (findN kd a) := by
  cases hk : kat kd p with
  | small c xs => exact absurd hk (hs c xs)
  | zero => exact ⟨p, by omega, fun t a b => by omega, by rw [hk]; simp [PK.kind], by rw [hk]; simp [PK.big], by rw [hk]; simp [PK.big], by rw [hk, find_zero kd a (by rw [ha]; exact hk), if_neg (by simp [PK.kind])]; rfl⟩
  | free => exact ⟨p, by omega, fun t a b => by omega, by rw [hk]; simp [PK.kind], by rw [hk]; simp [PK.big], by rw [hk]; simp [PK.big], by rw [hk, find_free kd a (by rw [ha]; exact hk), if_neg (by simp [PK.kind])]; rfl⟩
  | part j k =>
    obtain ⟨g1, g2, g3, g4⟩ := h.part p j k hk
    have e0 := g4 0 (by omega)
    rw [Nat.add_zero] at e0
    have hb : (kat kd (p - j)).big = k := by rw [e0]; rfl
    refine ⟨p - j, by omega, fun t a b => ?_, by rw [e0]; simp [PK.kind], by rw [hb]; omega, by rw [hb]; omega, ?_⟩
    · have := g4 (t - (p - j)) (by omega)
      rw [show p - j + (t - (p - j)) = t by omega] at this
      obtain ⟨m, hm⟩ : ∃ m, t - (p - j) = m + 1 := ⟨t - (p - j) - 1, by omega⟩
      rw [this, hm]; rfl
    · rw [hb, if_pos (by rw [e0]; rfl), find_part kd a j k (by rw [ha]; exact hk), ha]
      show _ = Value.agg #[.int .i64 ((64 * (p - j) : Nat) : Int), .int .i64 ((64 * k : Nat) : Int), .bool true]
      rw [show ((64 * k : Nat) : Int) = (k : Int) * 64 by omega]
/-- Find of the document's own, at any integer. -/
theorem rfind_any (mb : Nat) (F : List Nat) (a : Int) (ws : List Int) (kd : List PK) (w : World) (h : IsRef w mb F ws kd) (hw : WF kd) :
    Calls Tryz.prog 67 #[.pointer (some ⟨mb, 0, none⟩), .int .i64 a] w fun e w' => e = .returned (foundA (findI kd a)) ∧ Keep [] w w' := by
  obtain ⟨L, h⟩ := h
  have hn2 := hw.len2
  obtain ⟨f0, f1, f2, f3, f4⟩ := h.f
  have l0 := h.lt _ f0
  have l2 := h.lt _ f2
  have l3 := h.lt _ f3
  have l4 := h.lt _ f4
  by_cases ha : 0 ≤ a ∧ a < ((64 * kd.length : Nat) : Int)
  · obtain ⟨k, rfl⟩ := Int.eq_ofNat_of_zero_le ha.1
    have e0 : findI kd (k : Int) = findN kd k := by unfold findI; rw [if_neg (by omega), Int.toNat_natCast]
    rw [e0]
    obtain ⟨p, hp⟩ : ∃ p, k / 64 = p := ⟨_, rfl⟩
    have hpl : p < kd.length := by omega
    have h1 : (k : Int) / 64 = p := by omega
    have h2 : (k : Int).tdiv 64 = p := by rw [Int.tdiv_eq_ediv_of_nonneg (by omega)]; exact h1
    by_cases hsm : ∃ c xs, kat kd p = .small c xs
    · obtain ⟨c, xs, hk⟩ := hsm
      obtain ⟨hc, hxl, _⟩ := hw.small p c xs hk
      obtain ⟨z1, z2, z3, z4, z5, z6, z7⟩ := sz_facts c hc
      obtain ⟨y1, y2, y3, y4⟩ := sz_word c k hc
      obtain ⟨r, hr⟩ : ∃ r, k % 64 = r := ⟨_, rfl⟩
      obtain ⟨i, hi⟩ : ∃ i, r / sz c = i := ⟨_, rfl⟩
      rw [hr, hi] at y2 y1
      have q1 : (k : Int) % 64 = r := by omega
      have q2 : (k : Int).tmod 64 = r := by rw [Int.tmod_eq_emod_of_nonneg (by omega)]; exact q1
      have q3 : (r : Int) / (sz c : Nat) = i := by rw [← hi]; rfl
      have q4 : (r : Int).tdiv (sz c : Nat) = i := by rw [Int.tdiv_eq_ediv_of_nonneg (by omega)]; exact q3
      have hck := h.ck hpl
      rw [kindL_get, hk] at hck
      have hct := h.ct hpl
      rw [hk] at hct
      have hR := h.page p c xs hk
      have := rfind_small mb k p kd.length (64 * kd.length) L.gw L.gk L.gt (L.T p) c (sz c) i r xs w ⟨l0, l2, l4, hR.lt⟩ h.c0 h.c1 h.c3 hck hct hR hpl (by omega) (by omega) hc rfl h1 h2 q1 q2 q3 q4 (by omega) (by omega) (by omega) z4
      refine this.mono ?_
      rintro e w' ⟨rfl, hK⟩
      refine ⟨?_, hK⟩
      rw [find_small kd k c xs (by rw [hp]; exact hk), hr, hi]
      cases xs[i]?.getD false
      · rfl
      · rw [if_pos rfl, if_pos rfl, y1, hp]; rfl
    · have hs : ∀ c xs, kat kd p ≠ .small c xs := fun c xs e => hsm ⟨c, xs, e⟩
      obtain ⟨q, g1, g2, g3, g4, g5, g6⟩ := down_facts hw p hs k hp
      have hcm := h.cm (p := q) (by omega)
      rw [bigL_get] at hcm
      rw [← g6]
      exact rfind_down mb k p kd.length (64 * kd.length) L.gw L.gk L.gm (fun t => (kat kd t).kind) (kat kd q).big q w ⟨l0, l2, l3⟩ h.c0 h.c1 h.c2 (fun t ht => by have := h.ck ht; rw [kindL_get] at this; exact this) hcm hpl hn2 (by omega) h1 h2 (kind_small _ hs) g1 g2 g3 ⟨g4, g5⟩
  · have e0 : findI kd a = none := by
      unfold findI
      split
      · rfl
      · exact find_out kd _ (by omega)
    rw [e0]
    exact rfind_out mb L.gw (64 * kd.length) a w h.c0 l0 (by omega)

end Go.Proofs.YtamcoejlghfleaaGreat

/-
  Each and Used of the document's own space.
-/
namespace Go.Proofs.YtamcoejlghfleaaGreat
open Go.RowKit

theorem eachTo_bd {kd : List PK} (h : WF kd) (j c t : Nat) (xs : List Bool) (hk : kat kd j = .small c xs) (ht : t ≤ xs.length) : ∀ i : Nat, -9223372036854775808 ≤ (eachTo kd j ++ startsTo j c xs t)[i]?.getD 0 ∧ (eachTo kd j ++ startsTo j c xs t)[i]?.getD 0 ≤ 9223372036854775807 :=
  getD_bd (fun x hx => by
    rcases List.mem_append.1 hx with hx | hx
    · obtain ⟨a, n, rfl, _, h3, _⟩ := h.each_in j x hx; omega
    · obtain ⟨i, hi, _, rfl⟩ := startsTo_mem j c xs t x hx
      obtain ⟨hc, hl, _⟩ := h.small j c xs hk
      have hj := kat_lt kd j (by rw [hk]; simp)
      have := h.len2
      have : i * sz c ≤ 32 * 32 := Nat.mul_le_mul (by have := (sz_facts c hc).2.2.2.2.2.1; omega) (sz_facts c hc).2.2.2.1
      omega)

set_option maxRecDepth 100000 in
set_option maxHeartbeats 8000000 in
theorem reach_at (mb : Nat) (L : RLay) (F : List Nat) (ws : List Int) (kd : List PK) (w : World) (h : RpAt w mb L F ws (kindL kd) (bigL kd) kd) (hw : WF kd) :
    Calls Tryz.prog 50 #[.pointer (some ⟨mb, 0, none⟩)] w fun e w' => ∃ v, e = .returned v ∧ GivesInts w w' v (eachK kd) ∧ Keep [] w w' := by
  obtain ⟨i0, hi, hz0, hz1, hz2⟩ := info_parts Tryz.infoInt
  have hI : Hid (Tryz.prog.info? 3 = some i0 ∧ i0.zero = some (.int .i64 0) ∧ i0.size = 1 ∧ i0.bytes = 8) := ⟨hi, hz0, hz1, hz2⟩
  clear hi hz0 hz1 hz2
  obtain ⟨n, hn⟩ : ∃ n, kd.length = n := ⟨_, rfl⟩
  have HN := (show Hid (kd.length = n) from hn)
  have hn2 : n ≤ 256 := by rw [← hn]; exact hw.len2
  have HW := (show Hid (WF kd) from hw)
  have HM := (show Hid (RpAt w mb L F ws (kindL kd) (bigL kd) kd) from h)
  clear hn hw h
  go_enter Tryz.func50, Tryz.ntmps50
  go_wp2_with fail
  go_loopw [3, 4] (fun v i wr => ∃ (j m : Nat) (vv : Value), vv = v ∧ j ≤ n ∧ i = .int .i64 j ∧ m = (eachTo kd j).length ∧ Hid (wr.ownsRow w.heap.size 3 1 v m (ints (eachTo kd j))) ∧ Keep [] w wr) (fun _ i _ => n - (intOf i).toNat)
  case atStart => exact ⟨0, 0, _, rfl, by omega, rfl, rfl, World.ownsRow_nil _ _ _ _, Keep.refl _ _⟩
  case round =>
    obtain ⟨j, m, v, hvv, hj, rfl, hm, HO, hK⟩ := hrel
    obtain ⟨w2, rfl⟩ : ∃ w2, w2 = wr := ⟨_, rfl⟩
    subst hvv
    have hM2 := HM.out.keep0 hK
    have c1 := hM2.c1
    rw [HN.out] at c1
    by_cases hlt : j < n
    · have c3 := hM2.c3
      rw [HN.out] at c3
      have ck := hM2.ck (p := j) (by rw [HN.out]; exact hlt)
      rw [kindL_get] at ck
      have ct := hM2.ct (p := j) (by rw [HN.out]; exact hlt)
      have hm2 : m ≤ 32 * 256 := by have := HW.out.each_len j; omega
      have HE := (show Hid (eachTo kd (j + 1) = eachTo kd j ++ startsK j (kat kd j)) from eachTo_succ kd j)
      have quiet : (kat kd j).slot (L.T j) = .slice none 0 0 → (kat kd j).kind ≠ 6 → startsK j (kat kd j) = [] → True := fun _ _ _ => trivial
      clear quiet
      by_cases hsm : ∃ c xs, kat kd j = .small c xs
      · obtain ⟨c, xs, hk⟩ := hsm
        obtain ⟨hc, hxl, _⟩ := HW.out.small j c xs hk
        obtain ⟨z1, z2, z3, z4, z5, z6, z7⟩ := sz_facts c hc
        have HK := (show Hid (kat kd j = .small c xs) from hk)
        rw [hk] at ck ct HE
        have hck : w2.cell? ⟨L.gk, j, none⟩ = some (.int .i64 ((c : Int) + 1)) := ck
        have hct : w2.cell? ⟨L.gt, j, none⟩ = some (.slice (some ⟨L.T j, 0, none⟩) xs.length xs.length) := ct
        obtain ⟨s, hs⟩ : ∃ s, sz c = s := ⟨_, rfl⟩
        have HS := (show Hid (sz c = s) from hs)
        have HSL := (show Hid (sizesL[c]?.getD 0 = (s : Nat)) from by show _ = _; rw [← hs]; exact z1)
        rw [hs] at z3 z4
        obtain ⟨xl, hxl2⟩ : ∃ xl, xs.length = xl := ⟨_, rfl⟩
        have HXL := (show Hid (xs.length = xl) from hxl2)
        have hxb : xl ≤ 32 := by omega
        rw [hxl2] at hct
        have hd6 : decide ((c : Int) + 1 = 6) = false := by rw [decide_eq_false_iff_not]; omega
        have HES := (show Hid (eachTo kd (j + 1) = eachTo kd j ++ startsTo j c xs xl) from by
          have := HE.out
          show _ = _
          rw [this, ← HXL.out]; rfl)
        clear ck ct hk hs hxl hxl2 HE hM2 z1 z2 z5 z6 z7
        go_wp2_with fail
        clear c1 c3 hck hct
        go_loopw [3, 5] (fun v i wz => ∃ (t q : Nat) (vv : Value), vv = v ∧ t ≤ xl ∧ i = .int .i64 t ∧ q = (eachTo kd j ++ startsTo j c xs t).length ∧ q ≤ m + t ∧ Hid (wz.ownsRow w.heap.size 3 1 v q (ints (eachTo kd j ++ startsTo j c xs t))) ∧ Keep [] w wz) (fun _ i _ => xl - (intOf i).toNat)
        case atStart => exact ⟨0, m, _, rfl, by omega, rfl, by rw [startsTo_zero, List.append_nil]; exact hm, by omega, by rw [startsTo_zero, List.append_nil]; exact HO, hK⟩
        case round =>
          obtain ⟨t, q, v, hvv, ht, rfl, hq, hqm, HO2, hK2⟩ := hrel
          obtain ⟨w3, rfl⟩ : ∃ w3, w3 = wr := ⟨_, rfl⟩
          subst hvv
          have hM3 := HM.out.keep0 hK2
          have c1 := hM3.c1
          have c3 := hM3.c3
          rw [HN.out] at c1 c3
          have ck : w3.cell? ⟨L.gk, j, none⟩ = some (.int .i64 ((c : Int) + 1)) := by
            have := hM3.ck (p := j) (by rw [HN.out]; exact hlt)
            rw [kindL_get, HK.out] at this; exact this
          have ct : w3.cell? ⟨L.gt, j, none⟩ = some (.slice (some ⟨L.T j, 0, none⟩) xl xl) := by
            have := hM3.ct (p := j) (by rw [HN.out]; exact hlt)
            rw [HK.out] at this
            rw [← HXL.out]; exact this
          by_cases htl : t < xl
          · have cx := (hM3.page j c xs HK.out).cell (i := t) (by rw [HXL.out]; exact htl)
            cases hv : xs[t]?.getD false
            · rw [hv] at cx
              have HST := (show Hid (startsTo j c xs (t + 1) = startsTo j c xs t) from startsTo_no j c xs t hv)
              clear hM3
              go_wp2_with fail
              go_roundw
              case rel => exact ⟨t + 1, q, _, rfl, by omega, by go_num, by rw [HST.out]; exact hq, by omega, by rw [HST.out]; exact HO2, hK2⟩
              case measure => simp [intOf]; omega
            · rw [hv] at cx
              obtain ⟨y, hy⟩ : ∃ y : Nat, t * s = y := ⟨_, rfl⟩
              have hyb : y ≤ 32 * 32 := by rw [← hy]; exact Nat.mul_le_mul (by omega) z4
              have hyi : (t : Int) * (s : Int) = y := by rw [← hy]; exact (Int.natCast_mul t s).symm
              have hyw : IntKind.i64.wrap ((t : Int) * s) = y := by rw [hyi]; exact IntWalk.i64_in _ (by omega)
              obtain ⟨u, hu⟩ : ∃ u : Nat, 64 * j + y = u := ⟨_, rfl⟩
              have hui : (j : Int) * 64 + y = u := by omega
              have hub : u ≤ 20000 := by omega
              have huw : IntKind.i64.wrap ((j : Int) * 64 + y) = u := by rw [hui]; exact IntWalk.i64_in _ (by omega)
              have hjw : IntKind.i64.wrap ((j : Int) * 64) = (j : Int) * 64 := IntWalk.i64_in _ (by omega)
              have hcw : IntKind.i64.wrap ((c : Int) + 1 - 1) = c := by rw [show (c : Int) + 1 - 1 = c by omega]; exact IntWalk.i64_in _ (by omega)
              have HST := (show Hid (eachTo kd j ++ startsTo j c xs (t + 1) = eachTo kd j ++ startsTo j c xs t ++ [(u : Int)]) from by
                show _ = _
                rw [startsTo_yes j c xs t hv, HS.out, hy, hu, List.append_assoc])
              have hsz3 := hK2.size
              have hyw2 : IntKind.i64.wrap (y : Int) = y := IntWalk.i64_in _ (by omega)
              have huw2 : IntKind.i64.wrap (u : Int) = u := IntWalk.i64_in _ (by omega)
              have hcb0 : (0 : Int) ≤ (c : Int) := by omega
              have hcb1 : (c : Int) < 5 := by omega
              have hcb2 : (c : Int) ≤ 5 := by omega
              have hcw2 : IntKind.i64.wrap (c : Int) = c := IntWalk.i64_in _ (by omega)
              have HQq := (show Hid (q = (eachTo kd j ++ startsTo j c xs t).length) from hq)
              have HMm := (show Hid (m = (eachTo kd j).length) from hm)
              clear hv hy hu hM3 hq hm
              go_wp2_with fail
              have hKd := hK2.trans (Keep.drew [] w3)
              have HOd := (show Hid (w3.drew.ownsRow w.heap.size 3 1 v q (ints (eachTo kd j ++ startsTo j c xs t))) from own_keep6 HO2.out (Keep.drew [] w3))
              have hSd : (fun wz => wz.cell? ⟨mb, 1, none⟩ = some (.slice (some ⟨L.gk, 0, none⟩) n n) ∧ wz.cell? ⟨L.gk, j, none⟩ = some (.int .i64 ((c : Int) + 1))) w3.drew := ⟨c1, ck⟩
              refine wp_region_held_drew (S := (fun wz => wz.cell? ⟨mb, 1, none⟩ = some (.slice (some ⟨L.gk, 0, none⟩) n n) ∧ wz.cell? ⟨L.gk, j, none⟩ = some (.int .i64 ((c : Int) + 1)))) (by kernel_rfl) hSd (fun hHeld => ?_)
              refine wpAnyH_take (i := 0) (v := ?_) rfl (by kernel_rfl) (by kernel_rfl) (by kernel_rfl) (fun _ _ _ h => h) (Or.inl ⟨by rfl, ?_⟩) (by assumption) ?_
              rotate_left 1
              · intro w hSw
                (try dsimp only at hSw)
                go_simp
                try with_reducible rfl
              try dsimp only [Act.put]
              refine wpAnyH_take (i := 1) (v := ?_) rfl (by kernel_rfl) (by kernel_rfl) (by kernel_rfl) (fun _ _ _ h => h) (Or.inl ⟨by rfl, ?_⟩) (by assumption) ?_
              rotate_left 1
              · intro w hSw
                (try dsimp only at hSw)
                go_simp
                try with_reducible rfl
              try dsimp only [Act.put]
              refine wpAnyH_take (i := 2) (v := ?_) rfl (by kernel_rfl) (by kernel_rfl) (by kernel_rfl) (fun _ _ _ h => h) (Or.inl ⟨by rfl, ?_⟩) (by assumption) ?_
              rotate_left 1
              · intro w hSw
                (try dsimp only at hSw)
                go_simp
                try with_reducible rfl
              try dsimp only [Act.put]
              refine wpAnyH_take (i := 3) (v := ?_) rfl (by kernel_rfl) (by kernel_rfl) (by kernel_rfl) (fun _ _ _ h => h) (Or.inl ⟨by rfl, ?_⟩) (by assumption) ?_
              rotate_left 1
              · intro w hSw
                (try dsimp only at hSw)
                go_simp
                try with_reducible rfl
              try dsimp only [Act.put]
              refine wpAnyH_take (i := 5) (v := ?_) rfl (by kernel_rfl) (by kernel_rfl) (by kernel_rfl) (fun _ _ _ h => h) (Or.inl ⟨by rfl, ?_⟩) (by assumption) ?_
              rotate_left 1
              · intro w hSw
                (try dsimp only at hSw)
                go_simp
                try with_reducible rfl
              try dsimp only [Act.put]
              refine wpAnyH_take (i := 6) (v := ?_) rfl (by kernel_rfl) (by kernel_rfl) (by kernel_rfl) (fun _ _ _ h => h) (Or.inl ⟨by rfl, ?_⟩) (by assumption) ?_
              rotate_left 1
              · intro w hSw
                (try dsimp only at hSw)
                go_simp
                try with_reducible rfl
              try dsimp only [Act.put]
              refine wpAnyH_take (i := 7) (v := ?_) rfl (by kernel_rfl) (by kernel_rfl) (by kernel_rfl) (fun _ _ _ h => h) (Or.inl ⟨by rfl, ?_⟩) (by assumption) ?_
              rotate_left 1
              · intro w hSw
                (try dsimp only at hSw)
                go_simp
                try with_reducible rfl
              try dsimp only [Act.put]
              refine wpAnyH_take (i := 8) (v := ?_) rfl (by kernel_rfl) (by kernel_rfl) (by kernel_rfl) (fun _ _ _ h => h) (Or.inl ⟨by rfl, ?_⟩) (by assumption) ?_
              rotate_left 1
              · intro w hSw
                (try dsimp only at hSw)
                go_simp
                try with_reducible rfl
              try dsimp only [Act.put]
              refine wpAnyH_take (i := 9) (v := ?_) rfl (by kernel_rfl) (by kernel_rfl) (by kernel_rfl) (fun _ _ _ h => h) (Or.inl ⟨by rfl, ?_⟩) (by assumption) ?_
              rotate_left 1
              · intro w hSw
                (try dsimp only at hSw)
                go_simp
                try with_reducible rfl
              try dsimp only [Act.put]
              refine wpAnyH_take (i := 10) (v := ?_) rfl (by kernel_rfl) (by kernel_rfl) (by kernel_rfl) (fun _ _ _ h => h) (Or.inl ⟨by rfl, ?_⟩) (by assumption) ?_
              rotate_left 1
              · intro w hSw
                (try dsimp only at hSw)
                go_simp
                try with_reducible rfl
              try dsimp only [Act.put]
              refine wpAnyH_take (i := 11) (v := ?_) rfl (by kernel_rfl) (by kernel_rfl) (by kernel_rfl) (fun _ _ _ h => h) (Or.inl ⟨by rfl, ?_⟩) (by assumption) ?_
              rotate_left 1
              · intro w hSw
                (try dsimp only at hSw)
                go_simp
                try with_reducible rfl
              try dsimp only [Act.put]
              refine wpAnyH_take (i := 12) (v := ?_) rfl (by kernel_rfl) (by kernel_rfl) (by kernel_rfl) (fun _ _ _ h => h) (Or.inl ⟨by rfl, ?_⟩) (by assumption) ?_
              rotate_left 1
              · intro w hSw
                (try dsimp only at hSw)
                go_simp
                try with_reducible rfl
              try dsimp only [Act.put]
              refine wpAnyH_ready (rs := [4]) (by kernel_rfl) (by simp) ?_
              refine AllReadyH.cons rfl (fun K hK => ?_) AllReadyH.nil
              go_simp
              refine (rsizes_any _).mono ?_
              rintro e w4 ⟨gz, rfl, hr, hK4, hgz⟩
              have hxz := hr.cell (i := c) hc
              rw [HSL.out] at hxz
              have hK44 := hKd.trans hK4
              have hM4 := HM.out.keep0 hK44
              have hS41 := hM4.c1
              rw [HN.out] at hS41
              have hS42 : w4.cell? ⟨L.gk, j, none⟩ = some (.int .i64 ((c : Int) + 1)) := by
                have := hM4.ck (p := j) (by rw [HN.out]; exact hlt)
                rw [kindL_get, HK.out] at this; exact this
              have hM45 := hM4.keep0 (Keep.alloc [] w4 (.cells #[.int .i64 (u : Int)] 3))
              have hS43 := hM45.c1
              rw [HN.out] at hS43
              have hS44 : (w4.alloc (.cells #[.int .i64 (u : Int)] 3)).cell? ⟨L.gk, j, none⟩ = some (.int .i64 ((c : Int) + 1)) := by
                have := hM45.ck (p := j) (by rw [HN.out]; exact hlt)
                rw [kindL_get, HK.out] at this; exact this
              have HO4 := (show Hid (w4.ownsRow w.heap.size 3 1 v q (ints (eachTo kd j ++ startsTo j c xs t))) from own_keep6 HOd.out hK4)
              have hsz4 := hK44.size
              clear hM4 hM45 hr
              refine hK.out _ _ ⟨hS41, hS42⟩ (fun hHeld => ?_)
              clear hK K
              try dsimp only [Act.put]
              refine wpAnyH_take (i := 13) (v := ?_) rfl (by kernel_rfl) (by kernel_rfl) (by kernel_rfl) (fun _ _ _ h => h) (Or.inl ⟨by rfl, ?_⟩) (by assumption) ?_
              rotate_left 1
              · intro w hSw
                (try dsimp only at hSw)
                go_simp
                try with_reducible rfl
              try dsimp only [Act.put]
              refine wpAnyH_ready (rs := [14]) (by kernel_rfl) (by simp) ?_
              refine AllReadyH.cons rfl (fun K hK => ?_) AllReadyH.nil
              go_simp
              refine hK.out _ _ ⟨hS41, hS42⟩ (fun hHeld => ?_)
              clear hK K
              try dsimp only [Act.put]
              refine wpAnyH_take (i := 15) (v := ?_) rfl (by kernel_rfl) (by kernel_rfl) (by kernel_rfl) (fun _ _ _ h => h) (Or.inl ⟨by rfl, ?_⟩) (by assumption) ?_
              rotate_left 1
              · intro w hSw
                (try dsimp only at hSw)
                go_simp
                try with_reducible rfl
              try dsimp only [Act.put]
              refine wpAnyH_take (i := 16) (v := ?_) rfl (by kernel_rfl) (by kernel_rfl) (by kernel_rfl) (fun _ _ _ h => h) (Or.inl ⟨by rfl, ?_⟩) (by assumption) ?_
              rotate_left 1
              · intro w hSw
                (try dsimp only at hSw)
                go_simp
                try with_reducible rfl
              try dsimp only [Act.put]
              refine wpAnyH_ready (rs := [17]) (by kernel_rfl) (by simp) ?_
              refine AllReadyH.cons rfl (fun K hK => ?_) AllReadyH.nil
              go_simp
              refine hK.out _ _ ⟨hS43, hS44⟩ (fun hHeld => ?_)
              clear hK K
              try dsimp only [Act.put]
              refine wpAnyH_ready (rs := [18]) (by kernel_rfl) (by simp) ?_
              refine AllReadyH.cons rfl (fun K hK => ?_) AllReadyH.nil
              refine step_append_lies _ rfl (.tmp 50) (.tmp 67) 23 rfl w.heap.size 3 i0 (.int .i64 0) 1 8 Tryz.underlying23 hI.out.1 hI.out.2.1 hI.out.2.2.1 hI.out.2.2.2 rfl (by decide) _ q (ints (eachTo kd j ++ startsTo j c xs t)) rfl (HO4.out.alloc _) ⟨w4.heap.size, 0, none⟩ 1 1 (ints [(u : Int)]) rfl rfl (one_cell _ _ _) (ints_one _) (by omega) (by unfold maxLen; omega) (by omega) (by simp; omega) (w4.heap.size + 1) (by simp) ?_
              intro ga ca7 w7 hown7 hgrow7 hblk7 hlt7
              have hK7 : Keep [] w w7 := (hK44.trans (Keep.alloc [] _ _)).grown hgrow7 (own_block HO4.out)
              have hM7 := HM.out.keep0 hK7
              have hS51 := hM7.c1
              rw [HN.out] at hS51
              have hS52 : w7.cell? ⟨L.gk, j, none⟩ = some (.int .i64 ((c : Int) + 1)) := by
                have := hM7.ck (p := j) (by rw [HN.out]; exact hlt)
                rw [kindL_get, HK.out] at this; exact this
              refine hK.out _ _ ⟨hS51, hS52⟩ (fun hHeld => ?_)
              clear hK K
              try dsimp only [Act.put]
              refine wpAnyH_take (i := 19) (v := ?_) rfl (by kernel_rfl) (by kernel_rfl) (by kernel_rfl) (fun _ _ _ h => h) (Or.inl ⟨by rfl, ?_⟩) (by assumption) ?_
              rotate_left 1
              · intro w hSw
                (try dsimp only at hSw)
                go_simp
                try with_reducible rfl
              try dsimp only [Act.put]
              refine wpAnyH_done (by kernel_rfl) ?_ _
              have HO7 := (show Hid (w7.ownsRow w.heap.size 3 1 (.slice (some ⟨ga, 0, none⟩) (q + 1) ca7) (q + 1) (ints (eachTo kd j ++ startsTo j c xs (t + 1)))) from by
                show World.ownsRow _ _ _ _ _ _ _
                rw [HST.out, ← ints_app]; exact hown7)
              have HQ7 := (show Hid (q + 1 = (eachTo kd j ++ startsTo j c xs (t + 1)).length) from by
                show _ = _
                rw [HST.out, List.length_append, ← HQq.out]; rfl)
              clear hown7 hgrow7 hblk7 hlt7 hM7 hS51 hS52 HO4 HOd HO2
              go_wp2_with fail
              go_roundw
              case rel =>
                have hl7 := HQ7.out
                rw [List.length_append] at hl7
                refine ⟨t + 1, by omega, by go_num, by omega, ?_⟩
                rw [← hl7]
                exact HO7
              case measure => simp [intOf]; omega
          · obtain rfl : t = xl := by omega
            have HO8 := (show Hid (w3.ownsRow w.heap.size 3 1 v q (ints (eachTo kd (j + 1)))) from by
              show World.ownsRow _ _ _ _ _ _ _
              rw [HES.out]; exact HO2.out)
            have HQ8 := (show Hid (q = (eachTo kd (j + 1)).length) from by show _ = _; rw [HES.out]; exact hq)
            clear HO2 hM3
            go_wp2_with fail
            go_roundw
            case rel => exact ⟨j + 1, q, _, rfl, by omega, by go_num, HQ8.out, HO8, hK2⟩
            case measure => simp [intOf]; omega
      · have hs : ∀ c xs, kat kd j ≠ .small c xs := fun c xs e => hsm ⟨c, xs, e⟩
        have ct0 : w2.cell? ⟨L.gt, j, none⟩ = some (.slice none 0 0) := by
          cases e : kat kd j with
          | small c xs => exact absurd e (hs c xs)
          | _ => rw [e] at ct; exact ct
        by_cases h6 : (kat kd j).kind = 6
        · have hst : startsK j (kat kd j) = [((64 * j : Nat) : Int)] := by
            cases e : kat kd j with
            | small c xs => exact absurd e (hs c xs)
            | part a b =>
              rw [e] at h6
              cases a with
              | zero => rfl
              | succ a => exact absurd h6 (by show ¬ (7 : Int) = 6; omega)
            | zero => rw [e] at h6; exact absurd h6 (by show ¬ (-1 : Int) = 6; omega)
            | free => rw [e] at h6; exact absurd h6 (by show ¬ (0 : Int) = 6; omega)
          rw [h6] at ck
          rw [hst] at HE
          obtain ⟨u, hu⟩ : ∃ u : Nat, 64 * j = u := ⟨_, rfl⟩
          rw [hu] at HE
          have hui : (j : Int) * 64 = u := by omega
          have hub : u ≤ 20000 := by omega
          clear hst hu h6 ct hs hsm hM2
          go_wp2_with (first | (at_builtin; refine append_ints rfl (.tmp 23) (.tmp 26) 23 rfl w.heap.size 3 i0 Tryz.underlying23 hI.out _ m (eachTo kd j) [(u : Int)] rfl (HO.out.alloc _) (some ⟨w2.heap.size, 0, none⟩) 1 1 rfl rfl (IntsAt.single w2 3 u (by omega) (by omega)) (fun e => by cases e) (by omega) (by have := hK.size; simp; omega) ?_; intro v' w5 hown5 hgrow; have hK5 : Keep [] w w5 := (hK.trans (Keep.alloc [] _ _)).grown hgrow (own_block HO.out); have hM5 := HM.out.keep0 hK5; have c35 := hM5.c3; rw [HN.out] at c35))
          have ct5 : w5.cell? ⟨L.gt, j, none⟩ = some (.slice none 0 0) := by
            have e1 := (HM.out.keep0 hK).ct (p := j) (by rw [HN.out]; exact hlt)
            rw [ct0] at e1
            have e2 := hM5.ct (p := j) (by rw [HN.out]; exact hlt)
            rw [e2]; exact e1.symm
          have HO5 := (show Hid (w5.ownsRow w.heap.size 3 1 v' (m + 1) (ints (eachTo kd (j + 1)))) from by
            show World.ownsRow _ _ _ _ _ _ _
            rw [HE.out]; exact hown5)
          have HQ5 := (show Hid (m + 1 = (eachTo kd (j + 1)).length) from by show _ = _; rw [HE.out, List.length_append, ← hm]; rfl)
          clear hown5 hgrow hM5 HO
          go_loop [3, 5] (fun a i => a = v' ∧ i = .int .i64 0) (fun _ _ => 0)
          case atStart => exact ⟨rfl, rfl⟩
          case round =>
            obtain ⟨rfl, rfl⟩ := hrel
            go_wp2_with fail
            go_roundw
            case rel => exact ⟨j + 1, m + 1, _, rfl, by omega, by go_num, HQ5.out, HO5, hK5⟩
            case measure => simp [intOf]; omega
        · have hst : startsK j (kat kd j) = [] := by
            cases e : kat kd j with
            | small c xs => exact absurd e (hs c xs)
            | part a b =>
              rw [e] at h6
              cases a with
              | zero => exact absurd rfl h6
              | succ a => rfl
            | zero => rfl
            | free => rfl
          generalize (kat kd j).kind = kv at *
          have hkd : decide (kv = 6) = false := by rw [decide_eq_false_iff_not]; exact h6
          rw [hst, List.append_nil] at HE
          clear hst ct hs hsm hM2
          go_wp2_with fail
          go_loop [3, 5] (fun a i => a = v ∧ i = .int .i64 0) (fun _ _ => 0)
          case atStart => exact ⟨rfl, rfl⟩
          case round =>
            obtain ⟨rfl, rfl⟩ := hrel
            go_wp2_with fail
            go_roundw
            case rel => exact ⟨j + 1, m, _, rfl, by omega, by go_num, by rw [HE.out]; exact hm, by rw [HE.out]; exact HO, hK⟩
            case measure => simp [intOf]; omega
    · obtain rfl : j = n := by omega
      have hE : eachTo kd j = eachK kd := by unfold eachK; rw [HN.out]
      have hO := HO.out
      rw [hE] at hO
      obtain ⟨la, lc, rfl, hLA, hIA, hoffA, hlc⟩ := owned_form hO (by unfold eachK; exact HW.out.each_bd _)
      have HG := (show Hid (GivesInts w w2 (.slice la (eachK kd).length lc) (eachK kd)) from ⟨la, lc, rfl, hIA, hlc, hoffA⟩)
      clear hO HO hLA hIA hoffA hlc hE hM2
      go_wp2_with fail
      go_ret
      exact ⟨_, rfl, HG.out, hK⟩
/-- Each of the document's own. -/
theorem reach_any (mb : Nat) (F : List Nat) (ws : List Int) (kd : List PK) (w : World) (h : IsRef w mb F ws kd) (hw : WF kd) :
    Calls Tryz.prog 50 #[.pointer (some ⟨mb, 0, none⟩)] w fun e w' => ∃ v, e = .returned v ∧ GivesInts w w' v (eachK kd) ∧ Keep [] w w' := by
  obtain ⟨L, h⟩ := h; exact reach_at mb L F ws kd w h hw

end Go.Proofs.YtamcoejlghfleaaGreat

/-
  Used of the document's own space.
-/
namespace Go.Proofs.YtamcoejlghfleaaGreat
open Go.RowKit

end Go.Proofs.YtamcoejlghfleaaGreat

/-
  What each call of the document's own Bits (a plain list of bools) does.
-/
namespace Go.Proofs.YtamcoejlghfleaaGreat
open Go.RowKit

set_option maxHeartbeats 400000 in
theorem rnext_any (g n c : Nat) (f : Int) (v : Bool) (xs : List Bool) (w : World) (hr : BRow w 4 g xs) (hxn : xs.length = n) (hn : n ≤ 16384) (hf : f ≤ 9223372036854775807) :
    Calls Tryz.prog 88 #[.slice (some ⟨g, 0, none⟩) n c, .int .i64 f, .bool v] w fun e w' => e = .returned (.int .i64 (nextR xs f.toNat v)) ∧ w = w' := by
  have HR := (show Hid (∀ i : Nat, i < n → w.cell? ⟨g, i, none⟩ = some (.bool (xs[i]?.getD false))) from fun i hi => hr.cell (by omega))
  have HX := (show Hid (xs.length = n) from hxn)
  clear hr hxn
  generalize hN : nextR xs f.toNat v = r
  obtain ⟨i0, hi0, hi1⟩ : ∃ i0 : Nat, i0 = f.toNat ∧ (i0 : Int) ≤ 9223372036854775807 := ⟨_, rfl, by omega⟩
  rw [← hi0] at hN
  have HN := (show Hid (nextR xs i0 v = r) from hN)
  clear hN
  rcases (show f = i0 ∨ f < 0 ∧ i0 = 0 by omega) with rfl | ⟨hneg, rfl⟩
  all_goals
    clear hi0
    go_enter Tryz.func88, Tryz.ntmps88
    go_wp2
    go_loop [7] (fun i => ∃ j : Nat, i = .int .i64 j ∧ (j : Int) ≤ 9223372036854775807 ∧ Hid (nextR xs j v = r)) (fun i => n - (intOf i).toNat)
    case atStart => first | exact ⟨i0, rfl, hi1, HN⟩ | exact ⟨0, rfl, by omega, HN⟩
    case round =>
      obtain ⟨j, rfl, hj, HJ⟩ := hrel
      by_cases hlt : j < n
      · have hc := HR.out j hlt
        by_cases hv : xs[j]?.getD false = v
        · have HF := (show Hid ((j : Int) = r) from (nextR_yes xs j v (by rw [HX.out]; exact hlt) hv).symm.trans HJ.out)
          rw [hv] at hc
          clear hv
          go_wp2
          go_ret
          exact ⟨by rw [← HF.out]; rfl, rfl⟩
        · have HK := (show Hid (nextR xs (j + 1) v = r) from (nextR_no xs j v (by rw [HX.out]; exact hlt) hv).symm.trans HJ.out)
          obtain ⟨y, hy⟩ : ∃ y, xs[j]?.getD false = y := ⟨_, rfl⟩
          rw [hy] at hc hv
          have hbq : (y == v) = false := by rw [beq_eq_false_iff_ne]; exact hv
          clear hy hv
          go_wp2
          go_round
          case rel => exact ⟨j + 1, by go_num, by omega, HK⟩
          case measure => simp [intOf]; omega
      · have HF := (show Hid (-1 = r) from (nextR_end xs j v (by rw [HX.out]; omega)).symm.trans HJ.out)
        have hd : decide ((j : Int) < n) = false := by rw [decide_eq_false_iff_not]; omega
        go_wp2
        go_ret
        exact ⟨by rw [← HF.out]; rfl, rfl⟩

set_option maxHeartbeats 400000 in
theorem rclear_any (g n c i k : Nat) (xs : List Bool) (w : World) (hr : BRow w 4 g xs) (hxn : xs.length = n) (hn : n ≤ 16384) (hik : i + k ≤ n) :
    Calls Tryz.prog 103 #[.slice (some ⟨g, 0, none⟩) n c, .int .i64 i, .int .i64 k] w fun e w' => e = .returned (.bool (clrB xs i k)) ∧ w = w' := by
  have HR := (show Hid (∀ i : Nat, i < n → w.cell? ⟨g, i, none⟩ = some (.bool (xs[i]?.getD false))) from fun i hi => hr.cell (by omega))
  have HX := (show Hid (xs.length = n) from hxn)
  clear hr hxn
  generalize hN : clrB xs i k = r
  have HN := (show Hid (clrB xs i k = r) from hN)
  clear hN
  go_enter Tryz.func103, Tryz.ntmps103
  go_wp2
  go_loop [7] (fun q => ∃ j : Nat, q = .int .i64 j ∧ i ≤ j ∧ j ≤ i + k ∧ Hid (∀ t, i ≤ t → t < j → xs[t]?.getD false = false)) (fun q => i + k - (intOf q).toNat)
  case atStart => exact ⟨i, rfl, by omega, by omega, fun t a b => by omega⟩
  case round =>
    obtain ⟨j, rfl, hj1, hj2, HJ⟩ := hrel
    by_cases hlt : j < i + k
    · have hc := HR.out j (by omega)
      by_cases hv : xs[j]?.getD false = true
      · have HF := (show Hid (false = r) from by
          rw [← HN.out]
          cases h : clrB xs i k
          · rfl
          · have := ((clrB_iff _ _ _).1 h).2 j hj1 hlt; rw [hv] at this; cases this)
        rw [hv] at hc
        clear hv HJ
        go_wp2
        go_ret
        exact ⟨by rw [← HF.out]; rfl, rfl⟩
      · have hv' : xs[j]?.getD false = false := by simpa using hv
        have HK := (show Hid (∀ t, i ≤ t → t < j + 1 → xs[t]?.getD false = false) from fun t a b => by
          by_cases e : t = j
          · subst e; exact hv'
          · exact HJ.out t a (by omega))
        rw [hv'] at hc
        clear hv hv' HJ
        go_wp2
        go_round
        case rel => exact ⟨j + 1, by go_num, by omega, by omega, HK⟩
        case measure => simp [intOf]; omega
    · have HF := (show Hid (true = r) from by
        show true = r
        rw [← HN.out]; symm; rw [clrB_iff]
        exact ⟨by rw [HX.out]; exact hik, fun t a b => HJ.out t a (by omega)⟩)
      have hd : decide ((j : Int) < (i : Int) + k) = false := by rw [decide_eq_false_iff_not]; omega
      go_wp2
      go_ret
      exact ⟨by rw [← HF.out]; rfl, rfl⟩

set_option maxHeartbeats 400000 in
theorem rrun_low (x : Value) (f k : Int) (w : World) (h : k < 1) :
    Calls Tryz.prog 86 #[x, .int .i64 f, .int .i64 k] w fun e w' => e = .returned (.int .i64 (-1)) ∧ w = w' := by
  go_enter Tryz.func86, Tryz.ntmps86
  go_wp2
  go_ret
  exact ⟨rfl, rfl⟩
set_option maxHeartbeats 400000 in
theorem rrun_big (g n c : Nat) (f k : Int) (w : World) (h1 : 1 ≤ k) (h : (n : Int) < k) :
    Calls Tryz.prog 86 #[.slice (some ⟨g, 0, none⟩) n c, .int .i64 f, .int .i64 k] w fun e w' => e = .returned (.int .i64 (-1)) ∧ w = w' := by
  go_enter Tryz.func86, Tryz.ntmps86
  go_wp2
  go_ret
  exact ⟨rfl, rfl⟩
set_option maxHeartbeats 400000 in
theorem rrun_core (g n c k : Nat) (f : Int) (xs : List Bool) (w : World) (hr : BRow w 4 g xs) (hxn : xs.length = n) (hn : n ≤ 16384) (hf : f ≤ 9223372036854775807) (h1 : 1 ≤ k) (h2 : k ≤ n) :
    Calls Tryz.prog 86 #[.slice (some ⟨g, 0, none⟩) n c, .int .i64 f, .int .i64 k] w fun e w' => e = .returned (.int .i64 (runR xs f.toNat k)) ∧ w = w' := by
  have HX := (show Hid (xs.length = n) from hxn)
  have HR := (show Hid (BRow w 4 g xs) from hr)
  clear hxn hr
  generalize hN : runR xs f.toNat k = r
  obtain ⟨i0, hi0, hi1⟩ : ∃ i0 : Nat, i0 = f.toNat ∧ (i0 : Int) ≤ 9223372036854775807 := ⟨_, rfl, by omega⟩
  rw [← hi0] at hN
  have HN := (show Hid (runR xs i0 k = r) from hN)
  clear hN
  have hk1 : decide ((k : Int) < 1) = false := by rw [decide_eq_false_iff_not]; omega
  have hk2 : decide (n < k) = false := by rw [decide_eq_false_iff_not]; omega
  rcases (show f = i0 ∨ f < 0 ∧ i0 = 0 by omega) with rfl | ⟨hneg, rfl⟩
  all_goals
    clear hi0
    go_enter Tryz.func86, Tryz.ntmps86
    go_wp2
    go_loop [7] (fun i => ∃ j : Nat, i = .int .i64 j ∧ (j : Int) ≤ 9223372036854775807 ∧ Hid (runR xs j k = r)) (fun i => n - (intOf i).toNat)
    case atStart => first | exact ⟨i0, rfl, hi1, HN⟩ | exact ⟨0, rfl, by omega, HN⟩
    case round =>
      obtain ⟨j, rfl, hj, HJ⟩ := hrel
      by_cases hlt : j + k ≤ n
      · by_cases hv : clrB xs j k = true
        · have HF := (show Hid ((j : Int) = r) from (runR_yes xs j k h1 ((clrB_iff _ _ _).1 hv)).symm.trans HJ.out)
          have HV := (show Hid (clrB xs j k = true) from hv)
          clear hv
          go_wp2_with (go_at_call 103; refine (rclear_any _ _ _ j k _ _ HR.out HX.out hn hlt).mono ?_; rw [HV.out]; rintro e w' ⟨rfl, rfl⟩)
          go_ret
          exact ⟨by rw [← HF.out]; rfl, rfl⟩
        · have HK := (show Hid (runR xs (j + 1) k = r) from (runR_no xs j k (fun e => hv ((clrB_iff _ _ _).2 e))).symm.trans HJ.out)
          have HV := (show Hid (clrB xs j k = false) from by show clrB xs j k = false; simpa using hv)
          clear hv
          go_wp2_with (go_at_call 103; refine (rclear_any _ _ _ j k _ _ HR.out HX.out hn hlt).mono ?_; rw [HV.out]; rintro e w' ⟨rfl, rfl⟩)
          go_round
          case rel => exact ⟨j + 1, by go_num, by omega, HK⟩
          case measure => simp [intOf]; omega
      · have HF := (show Hid (-1 = r) from (runR_end xs j k (by rw [HX.out]; omega)).symm.trans HJ.out)
        have hd : decide ((j : Int) ≤ (n : Int) - k) = false := by rw [decide_eq_false_iff_not]; omega
        go_wp2
        go_ret
        exact ⟨by rw [← HF.out]; rfl, rfl⟩
theorem rrun_any (g n c : Nat) (f k : Int) (xs : List Bool) (w : World) (hr : BRow w 4 g xs) (hxn : xs.length = n) (hn : n ≤ 16384) (hf : f ≤ 9223372036854775807) :
    Calls Tryz.prog 86 #[.slice (some ⟨g, 0, none⟩) n c, .int .i64 f, .int .i64 k] w fun e w' => e = .returned (.int .i64 (runI xs f k)) ∧ w = w' := by
  unfold runI
  by_cases h : k < 1
  · rw [if_pos h]; exact rrun_low _ f k w h
  · rw [if_neg h]
    obtain ⟨m, rfl⟩ := Int.eq_ofNat_of_zero_le (show 0 ≤ k by omega)
    by_cases h2 : m ≤ n
    · exact rrun_core g n c m f xs w hr hxn hn hf (by omega) h2
    · rw [Int.toNat_natCast, runR_end _ _ _ (by omega)]
      exact rrun_big g n c f m w (by omega) (by omega)


end Go.Proofs.YtamcoejlghfleaaGreat

/-
  Free of the document's own space.
-/
namespace Go.Proofs.YtamcoejlghfleaaGreat
open Go.RowKit

/-- The kinds of pages that are freed one behind the other. -/
def unkind (ks : List Int) (p m : Nat) : List Int := fill0 ks p m
theorem kind_free (kd : List PK) (p k : Nat) (h : p + k ≤ kd.length) : unkind (kindL kd) p k = kindL (freeParts kd p k) := by
  unfold unkind
  refine eq_of_getD (by rw [fill0_length _ _ _ (by rw [kindL_length]; exact h), kindL_length, kindL_length, freeParts_length]) (fun t => ?_)
  rw [fill0_get _ _ _ _ (by rw [kindL_length]; exact h), kindL_get, kindL_get, freeParts_at]
  split <;> rfl

theorem kind_same {kd : List PK} {p c : Nat} {xs ys : List Bool} (hk : kat kd p = .small c xs) : kindL (kd.set p (.small c ys)) = kindL kd := by
  have hp := kat_lt kd p (by rw [hk]; simp)
  refine eq_of_getD (by simp [kindL]) (fun t => ?_)
  rw [kindL_get, kindL_get, kat_set _ _ _ _ hp]
  split
  · rename_i e; subst e; rw [hk]; rfl
  · rfl
theorem big_same {kd : List PK} {p c : Nat} {xs : List Bool} {x : PK} (hk : kat kd p = .small c xs) (hx : x.big = 0) : bigL (kd.set p x) = bigL kd := by
  have hp := kat_lt kd p (by rw [hk]; simp)
  refine eq_of_getD (by simp [bigL]) (fun t => ?_)
  rw [bigL_get, bigL_get, kat_set _ _ _ _ hp]
  split
  · rename_i e; subst e; rw [hk, hx]; rfl
  · rfl

end Go.Proofs.YtamcoejlghfleaaGreat

/-
  NewSpace of the document's own.
-/
namespace Go.Proofs.YtamcoejlghfleaaGreat
open Go.RowKit

theorem Tryz.infoBits : (Tryz.prog.info? 124).map (fun i => (i.zero, i.size, i.bytes)) = some (some (.slice none 0 0), 1, 24) := by kernel_rfl

theorem five_new (w : World) (o1 o2 o3 o4 o5 : Obj) : (((((w.alloc o1).alloc o2).alloc o3).alloc o4).alloc o5).drew.heap[w.heap.size]? = some o1 ∧ (((((w.alloc o1).alloc o2).alloc o3).alloc o4).alloc o5).drew.heap[w.heap.size + 1]? = some o2 ∧
    (((((w.alloc o1).alloc o2).alloc o3).alloc o4).alloc o5).drew.heap[w.heap.size + 1 + 1]? = some o3 ∧ (((((w.alloc o1).alloc o2).alloc o3).alloc o4).alloc o5).drew.heap[w.heap.size + 1 + 1 + 1]? = some o4 ∧
    (((((w.alloc o1).alloc o2).alloc o3).alloc o4).alloc o5).drew.heap[w.heap.size + 1 + 1 + 1 + 1]? = some o5 ∧ Keep [] w (((((w.alloc o1).alloc o2).alloc o3).alloc o4).alloc o5).drew := by
  have k1 := Keep.alloc [] w o1
  have k2 := Keep.alloc [] (w.alloc o1) o2
  have k3 := Keep.alloc [] ((w.alloc o1).alloc o2) o3
  have k4 := Keep.alloc [] (((w.alloc o1).alloc o2).alloc o3) o4
  have k5 := Keep.alloc [] ((((w.alloc o1).alloc o2).alloc o3).alloc o4) o5
  have k6 := Keep.drew [] (((((w.alloc o1).alloc o2).alloc o3).alloc o4).alloc o5)
  have e1 := heap_alloc_new w o1
  have e2 := heap_alloc_new (w.alloc o1) o2
  have e3 := heap_alloc_new ((w.alloc o1).alloc o2) o3
  have e4 := heap_alloc_new (((w.alloc o1).alloc o2).alloc o3) o4
  have e5 := heap_alloc_new ((((w.alloc o1).alloc o2).alloc o3).alloc o4) o5
  rw [show (w.alloc o1).heap.size = w.heap.size + 1 by simp] at e2
  rw [show ((w.alloc o1).alloc o2).heap.size = w.heap.size + 1 + 1 by simp] at e3
  rw [show (((w.alloc o1).alloc o2).alloc o3).heap.size = w.heap.size + 1 + 1 + 1 by simp] at e4
  rw [show ((((w.alloc o1).alloc o2).alloc o3).alloc o4).heap.size = w.heap.size + 1 + 1 + 1 + 1 by simp] at e5
  have t3 := (k4.trans k5).trans k6
  have t2 := k3.trans t3
  have t1 := k2.trans t2
  exact ⟨t1.blk e1 (by simp), t2.blk e2 (by simp), t3.blk e3 (by simp), (k5.trans k6).blk e4 (by simp), k6.blk e5 (by simp), k1.trans t1⟩
/-- What the document's New lays out, whichever of its rows is made first. -/
def Laid (n : Nat) (w wz : World) (mb gw gk gm gt : Nat) : Prop :=
  wz.heap[mb]? = some (.cells #[.slice (some ⟨gw, 0, none⟩) (n * 64) (n * 64), .slice (some ⟨gk, 0, none⟩) n n, .slice (some ⟨gm, 0, none⟩) n n, .slice (some ⟨gt, 0, none⟩) n n] 101 (0, 0)) ∧
  wz.heap[gw]? = some (.cells (madeCells #[.int .i64 0] (n * 64)) 3 (0, 0)) ∧ wz.heap[gk]? = some (.cells (madeCells #[.int .i64 0] n) 3 (0, 0)) ∧ wz.heap[gm]? = some (.cells (madeCells #[.int .i64 0] n) 3 (0, 0)) ∧
  wz.heap[gt]? = some (.cells (madeCells #[.slice none 0 0] n) 124 (0, 0)) ∧ Keep [] w wz ∧ (w.heap.size ≤ mb ∧ w.heap.size ≤ gw ∧ w.heap.size ≤ gk ∧ w.heap.size ≤ gm ∧ w.heap.size ≤ gt) ∧
  (gw < mb ∧ gk < mb ∧ gm < mb ∧ gt < mb) ∧ (gw ≠ gk ∧ gw ≠ gm ∧ gw ≠ gt) ∧ gk ≠ gm ∧ gk ≠ gt ∧ gm ≠ gt
theorem rows_none (n : Nat) (L : RLay) : List.replicate n (Value.slice none 0 0) = slots L (freshK n) := by
  apply List.ext_getElem?
  intro q
  rcases Nat.lt_or_ge q n with hq | hq
  · rw [slots_get L (freshK n) q (by rw [freshK_length]; exact hq), freshK_at n q (by omega), List.getElem?_replicate, if_pos hq]
    split <;> rfl
  · rw [List.getElem?_eq_none (by simpa using hq), List.getElem?_eq_none (by rw [slots_length, freshK_length]; exact hq)]
theorem kind_fresh (n : Nat) (h : 1 ≤ n) : kindL (freshK n) = (zeros n).set 0 (-1) := by
  refine eq_of_getD (by rw [kindL_length, freshK_length, List.length_set, zeros_length]) (fun t => ?_)
  rw [kindL_get, freshK_at n t h]
  by_cases e : t = 0
  · subst e; rw [if_pos rfl, set_get_same _ _ _ (by rw [zeros_length]; omega)]; rfl
  · rw [if_neg e, set_get_other _ _ _ _ (fun e' => e e'.symm), zeros_get]; rfl
theorem Laid.ref {n : Nat} {w wz : World} {mb gw gk gm gt : Nat} (hn : 1 ≤ n) (h : Laid n w wz mb gw gk gm gt) : ∃ F, IsRef (wz.setCell ⟨gk, 0, none⟩ (.int .i64 (-1))) mb F (zeros (64 * n)) (freshK n) ∧ Keep [] w (wz.setCell ⟨gk, 0, none⟩ (.int .i64 (-1))) ∧ ∀ k, k ∈ F → w.heap.size ≤ k := by
  obtain ⟨h0, h1, h2, h3, h4, hK, ⟨a0, a1, a2, a3, a4⟩, ⟨b1, b2, b3, b4⟩, ⟨c1, c2, c3⟩, c4, c5, c6⟩ := h
  let r : Nat → Nat := fun k => if k = mb then 0 else if k = gw then 1 else if k = gk then 2 else if k = gm then 3 else 4
  have nosm : ∀ p c xs, kat (freshK n) p ≠ .small c xs := by
    intro p c xs e
    rw [freshK_at n p hn] at e
    split at e <;> cases e
  have base : RpAt wz mb ⟨gw, gk, gm, gt, fun _ => 0, r⟩ [mb, gw, gk, gm, gt] (zeros (64 * n)) (zeros n) (zeros n) (freshK n) := {
    head := by rw [freshK_length, Nat.mul_comm]; exact h0
    rowW := by unfold Row; rw [← ints_made, Nat.mul_comm]; exact h1
    rowK := by unfold Row; rw [← ints_made]; exact h2
    rowM := by unfold Row; rw [← ints_made]; exact h3
    rowT := by
      rw [← rows_none]
      have : madeCells #[Value.slice none 0 0] n = (List.replicate n (Value.slice none 0 0)).toArray := by
        apply Array.toList_inj.1
        rw [toList_madeCells_one]
      rw [← this]; exact h4
    page := fun p c xs e => absurd e (nosm p c xs)
    lw := by rw [zeros_length, freshK_length]
    lk := by rw [zeros_length, freshK_length]
    lm := by rw [zeros_length, freshK_length]
    r0 := if_pos rfl
    r1 := by show r gw = _; simp only [r]; rw [if_neg (by omega), if_pos trivial]
    r2 := by show r gk = _; simp only [r]; rw [if_neg (by omega), if_neg (by omega), if_pos trivial]
    r3 := by show r gm = _; simp only [r]; rw [if_neg (by omega), if_neg (by omega), if_neg (by omega), if_pos trivial]
    r4 := by show r gt = _; simp only [r]; rw [if_neg (by omega), if_neg (by omega), if_neg (by omega), if_neg (by omega)]
    rp := fun p c xs e => absurd e (nosm p c xs)
    f := by simp
    fp := fun p c xs e => absurd e (nosm p c xs)
    lt := by
      intro k hk
      have l0 := lt_of_block h0
      simp only [List.mem_cons, List.not_mem_nil, or_false] at hk
      omega }
  have := base.setK 0 (-1)
  rw [← kind_fresh n hn] at this
  refine ⟨[mb, gw, gk, gm, gt], ⟨⟨gw, gk, gm, gt, fun _ => 0, r⟩, by rw [freshK_big n hn]; exact this⟩, ?_, fun k hk => ?_⟩
  · exact ((hK.mono (T := [gk]) (by simp)).trans (Keep.setCell _ _ (by simp))).drop (fun k e hlt => by simp at e; omega)
  · simp only [List.mem_cons, List.not_mem_nil, or_false] at hk
    omega

set_option maxHeartbeats 8000000 in
theorem rnews_ok (n : Nat) (w : World) (h1 : 1 ≤ n) (h2 : n ≤ 256) :
    Calls Tryz.prog 58 #[.int .i64 n] w fun e w' => ∃ mb F, e = .returned (.pointer (some ⟨mb, 0, none⟩)) ∧ IsRef w' mb F (zeros (64 * n)) (freshK n) ∧ Keep [] w w' ∧ ∀ k, k ∈ F → w.heap.size ≤ k := by
  have hmk0 : ∀ w, (Instr.makeSlice 23 (.int .i64 ((n : Int) * 64)) (.int .i64 ((n : Int) * 64))).run Tryz.prog w = .ok (.slice (some ⟨w.heap.size, 0, none⟩) (n * 64) (n * 64)) (w.alloc (.cells (madeCells #[.int .i64 0] (n * 64)) 3)) := by
    intro w
    have := run_make_row' (P := Tryz.prog) 23 3 (.int .i64 0) 8 Tryz.underlying23 Tryz.infoInt rfl .i64 .i64 (n * 64) (by omega) (by omega) w
    rw [show ((n * 64 : Nat) : Int) = (n : Int) * 64 from by omega] at this
    exact this
  have hmk1 : ∀ w, (Instr.makeSlice 23 (.int .i64 (n : Int)) (.int .i64 (n : Int))).run Tryz.prog w = .ok (.slice (some ⟨w.heap.size, 0, none⟩) n n) (w.alloc (.cells (madeCells #[.int .i64 0] n) 3)) :=
    fun w => run_make_row' (P := Tryz.prog) 23 3 (.int .i64 0) 8 Tryz.underlying23 Tryz.infoInt rfl .i64 .i64 n (by omega) (by omega) w
  have hmk2 : ∀ w, (Instr.makeSlice 99 (.int .i64 (n : Int)) (.int .i64 (n : Int))).run Tryz.prog w = .ok (.slice (some ⟨w.heap.size, 0, none⟩) n n) (w.alloc (.cells (madeCells #[.slice none 0 0] n) 124)) :=
    fun w => run_make_row' (P := Tryz.prog) 99 124 (.slice none 0 0) 24 Tryz.underlying99 Tryz.infoBits rfl .i64 .i64 n (by omega) (by omega) w
  have hw64 : IntKind.i64.wrap ((n : Int) * 64) = (n : Int) * 64 := IntWalk.i64_in _ (by omega)
  go_enter Tryz.func58, Tryz.ntmps58
  go_wp2
  go_cut [3] from 4 to 14 (fun v wz => ∃ mb gw gk gm gt, v = .pointer (some ⟨mb, 0, none⟩) ∧ Hid (Laid n w wz mb gw gk gm gt))
  case first =>
    go_region
    all_goals
      go_wp2
      go_meet
      exact ⟨_, _, _, _, _, rfl, (five_new w _ _ _ _ _).2.2.2.2.1, by first | exact (five_new w _ _ _ _ _).1 | exact (five_new w _ _ _ _ _).2.1 | exact (five_new w _ _ _ _ _).2.2.1 | exact (five_new w _ _ _ _ _).2.2.2.1, by first | exact (five_new w _ _ _ _ _).1 | exact (five_new w _ _ _ _ _).2.1 | exact (five_new w _ _ _ _ _).2.2.1 | exact (five_new w _ _ _ _ _).2.2.2.1, by first | exact (five_new w _ _ _ _ _).1 | exact (five_new w _ _ _ _ _).2.1 | exact (five_new w _ _ _ _ _).2.2.1 | exact (five_new w _ _ _ _ _).2.2.2.1, by first | exact (five_new w _ _ _ _ _).1 | exact (five_new w _ _ _ _ _).2.1 | exact (five_new w _ _ _ _ _).2.2.1 | exact (five_new w _ _ _ _ _).2.2.2.1, (five_new w _ _ _ _ _).2.2.2.2.2, by omega, by omega, by omega, by omega, by omega, by omega⟩
  case rest =>
    obtain ⟨mb, gw, gk, gm, gt, rfl, HL⟩ := hcut
    have hh := HL.out.1
    have c1 : wc.cell? ⟨mb, 1, none⟩ = some (.slice (some ⟨gk, 0, none⟩) n n) := by simp [World.cell?, hh]
    have hk := HL.out.2.2.1
    rw [ints_made] at hk
    have hRk : Row wc 3 gk (zeros n) := hk
    have c2 := hRk.cell (i := 0) (by rw [zeros_length]; omega)
    have c3 := hRk.free 0
    have HF := (show Hid (∃ F, IsRef (wc.setCell ⟨gk, 0, none⟩ (.int .i64 (-1))) mb F (zeros (64 * n)) (freshK n) ∧ Keep [] w (wc.setCell ⟨gk, 0, none⟩ (.int .i64 (-1))) ∧ ∀ k, k ∈ F → w.heap.size ≤ k) from HL.out.ref h1)
    clear hh hk hRk
    go_wp2
    go_ret
    obtain ⟨F, hF⟩ := HF.out
    exact ⟨mb, F, rfl, hF⟩

end Go.Proofs.YtamcoejlghfleaaGreat

/-
  What the document's own pages (a plain list of bools) do: NewPages, Take, Give.
-/
namespace Go.Proofs.YtamcoejlghfleaaGreat
open Go.RowKit

theorem run_dn (g n c k : Nat) (xs : List Bool) (w : World) (hr : BRow w 4 g xs) (hxn : xs.length = n) (hn : n ≤ 16384) (hk1 : 1 ≤ k) :
    Calls Tryz.prog 86 #[.slice (some ⟨g, 0, none⟩) n c, .int .i64 0, .int .i64 k] w fun e w' => e = .returned (.int .i64 (runR xs 0 k)) ∧ w = w' := by
  have := rrun_any g n c 0 k xs w hr hxn hn (by omega)
  unfold runI at this
  rw [if_neg (by omega), Int.toNat_natCast] at this
  exact this

end Go.Proofs.YtamcoejlghfleaaGreat

/-
  Alloc of the document's own space: no words, and more than a class has.
-/
namespace Go.Proofs.YtamcoejlghfleaaGreat
open Go.RowKit

theorem two_set {w : World} {bx : Nat} {t : TypeId} {v0 v1 a b : Value} (h : w.heap[bx]? = some (.cells #[v0, v1] t (0, 0))) : ((w.setCell ⟨bx, 0, none⟩ a).setCell ⟨bx, 1, none⟩ b).heap[bx]? = some (.cells #[a, b] t (0, 0)) := by
  have z1 := heap_setCell_same w bx 0 _ _ a h
  have z2 := heap_setCell_same _ bx 1 _ _ b z1
  simpa using z2
theorem Keep.two {S : List Nat} {w w2 : World} {bx : Nat} {a b : Value} (h : Keep S w w2) (hb : w.heap.size ≤ bx) : Keep S w ((w2.setCell ⟨bx, 0, none⟩ a).setCell ⟨bx, 1, none⟩ b) :=
  (((h.mono (T := bx :: S) (fun _ e => List.mem_cons_of_mem _ e)).trans (Keep.setCell _ _ (by simp))).trans (Keep.setCell _ _ (by simp))).drop (fun k e hlt => by
    rcases List.mem_cons.1 e with e | e
    · omega
    · exact e)

set_option maxHeartbeats 2000000 in
theorem ralloc_arg (mb : Nat) (n : Int) (w : World) (h : blockI n = 0) :
    Calls Tryz.prog 60 #[.pointer (some ⟨mb, 0, none⟩), .int .i64 n] w fun e w' => e = .returned (.agg #[.int .i64 0, .int .i64 1]) ∧ Keep [] w w' := by
  have HB := (show Hid (blockI n = 0) from h)
  have hx := heap_alloc_new w (.cells #[.int .i64 0, .int .i64 0] 34)
  have hK := Keep.alloc [] w (.cells #[.int .i64 0, .int .i64 0] 34)
  obtain ⟨bx, hbx⟩ : ∃ bx, w.heap.size = bx := ⟨_, rfl⟩
  rw [hbx] at hx
  clear h
  go_enter Tryz.func60, Tryz.ntmps60
  go_wp2_with fail
  refine (rblock_any _ _).mono ?_
  rw [HB.out]
  rintro e w1 ⟨rfl, hK1⟩
  have hx1 := hK1.blk hx (by simp)
  have f0 : w1.frozen? ⟨bx, 0, none⟩ = false := by simp [World.frozen?, hx1]
  have f1 : w1.frozen? ⟨bx, 1, none⟩ = false := by simp [World.frozen?, hx1]
  have g0 : w1.cell? ⟨bx, 0, none⟩ = some (.int .i64 0) := by simp [World.cell?, hx1]
  have g1 : w1.cell? ⟨bx, 1, none⟩ = some (.int .i64 0) := by simp [World.cell?, hx1]
  have HK := (show Hid (∀ a b, Keep [] w ((w1.setCell ⟨bx, 0, none⟩ a).setCell ⟨bx, 1, none⟩ b)) from fun a b => Keep.two (hK.trans hK1) (by omega))
  go_wp2
  refine bodyPost_ret (results_cell_row rfl _ _ bx 34 #[.int .i64 0, .int .i64 1] (0, 0) _ rfl (two_set hx1) Tryz.underlying34 rfl (by kernel_rfl)) rfl ?_
  exact ⟨rfl, HK.out _ _⟩

set_option maxHeartbeats 4000000 in
theorem ralloc_over (mb k : Nat) (n : Int) (L : RLay) (F : List Nat) (ws : List Int) (kd : List PK) (w : World) (h : RpAt w mb L F ws (kindL kd) (bigL kd) kd) (hw : WF kd) (hc : classI n = -1) (hp : pagesI n = k) (hk1 : 1 ≤ k) (hr : runR (takenL kd) 0 k = -1) :
    Calls Tryz.prog 60 #[.pointer (some ⟨mb, 0, none⟩), .int .i64 n] w fun e w' => e = .returned (.agg #[.int .i64 0, .int .i64 3]) ∧ Keep [] w w' := by
  have hk16 : k ≤ 16 := by have := (pages_le n).2; omega
  have hb : blockI n = ((64 * k : Nat) : Int) := by rw [block_none n hc, hp]; omega
  obtain ⟨b, hbb⟩ : ∃ b, 64 * k = b := ⟨_, rfl⟩
  rw [hbb] at hb
  have HB := (show Hid (blockI n = (b : Nat)) from hb)
  have HC := (show Hid (classI n = -1) from hc)
  have hbn : decide ((b : Int) = 0) = false := by rw [decide_eq_false_iff_not]; omega
  have hq1 : (b : Int) / 64 = k := by omega
  have hq2 : (b : Int).tdiv 64 = k := by rw [Int.tdiv_eq_ediv_of_nonneg (by omega)]; exact hq1
  have HR := (show Hid (runR (takenL kd) 0 k = -1) from hr)
  have HM := (show Hid (RpAt w mb L F ws (kindL kd) (bigL kd) kd) from h)
  have HW := (show Hid (WF kd) from hw)
  have hx := heap_alloc_new w (.cells #[.int .i64 0, .int .i64 0] 34)
  have hK := Keep.alloc [] w (.cells #[.int .i64 0, .int .i64 0] 34)
  obtain ⟨bx, hbx⟩ : ∃ bx, w.heap.size = bx := ⟨_, rfl⟩
  rw [hbx] at hx
  obtain ⟨nn, hnn⟩ : ∃ nn, kd.length = nn := ⟨_, rfl⟩
  have HN := (show Hid (kd.length = nn) from hnn)
  have hn2 : nn ≤ 256 := by rw [← hnn]; exact hw.len2
  clear h hw hc hp hr hb hnn
  go_enter Tryz.func60, Tryz.ntmps60
  go_wp2_with fail
  refine (rblock_any _ _).mono ?_
  rw [HB.out]
  rintro e w1 ⟨rfl, hK1⟩
  go_wp2_with fail
  refine (rclass_any _ _).mono ?_
  rw [HC.out]
  rintro e w2 ⟨rfl, hK2⟩
  have hK3 := (hK.trans hK1).trans hK2
  have hM2 := HM.out.keep0 hK3
  go_wp2_with fail
  refine (rpages_ok mb L F ws (bigL kd) kd w2 hM2 HW.out.len1 HW.out.len2).mono ?_
  rw [HN.out]
  rintro e w3 ⟨g, rfl, hBR, hK4, hg⟩
  clear hM2
  go_wp2_with fail
  refine (run_dn g nn nn k (takenL kd) w3 hBR (by rw [takenL_length, HN.out]) (by omega) hk1).mono ?_
  rw [HR.out]
  rintro e w' ⟨rfl, rfl⟩
  have hx1 := ((hK1.trans hK2).trans hK4).blk hx (by simp)
  have f0 : w3.frozen? ⟨bx, 0, none⟩ = false := by simp [World.frozen?, hx1]
  have f1 : w3.frozen? ⟨bx, 1, none⟩ = false := by simp [World.frozen?, hx1]
  have g0 : w3.cell? ⟨bx, 0, none⟩ = some (.int .i64 0) := by simp [World.cell?, hx1]
  have g1 : w3.cell? ⟨bx, 1, none⟩ = some (.int .i64 0) := by simp [World.cell?, hx1]
  have HK := (show Hid (∀ a b, Keep [] w ((w3.setCell ⟨bx, 0, none⟩ a).setCell ⟨bx, 1, none⟩ b)) from fun a b => Keep.two (hK3.trans hK4) (by omega))
  go_wp2
  refine bodyPost_ret (results_cell_row rfl _ _ bx 34 #[.int .i64 0, .int .i64 3] (0, 0) _ rfl (two_set hx1) Tryz.underlying34 rfl (by kernel_rfl)) rfl ?_
  exact ⟨rfl, HK.out _ _⟩

/-- The kinds of pages that are taken one behind the other. -/
def sevens (ks : List Int) (p m : Nat) : List Int := ks.take p ++ List.replicate m 7 ++ ks.drop (p + m)
theorem sevens_length (ks : List Int) (p m : Nat) (h : p + m ≤ ks.length) : (sevens ks p m).length = ks.length := by simp [sevens]; omega
theorem sevens_get (xs : List Int) (o m i : Nat) (h : o + m ≤ xs.length) : (sevens xs o m)[i]?.getD 0 = if o ≤ i ∧ i < o + m then 7 else xs[i]?.getD 0 := by
  unfold sevens
  have h1 : (xs.take o).length = o := by simp; omega
  by_cases h2 : i < o
  · rw [if_neg (by omega), List.append_assoc, List.getElem?_append_left (by omega), List.getElem?_take, if_pos h2]
  · by_cases h3 : i < o + m
    · rw [if_pos ⟨by omega, h3⟩, List.getElem?_append_left (by simp; omega), List.getElem?_append_right (by omega), h1]
      rw [List.getElem?_replicate, if_pos (by omega)]; rfl
    · rw [if_neg (by omega), List.getElem?_append_right (by simp; omega)]
      simp only [List.length_append, h1, List.length_replicate, List.getElem?_drop]
      congr 2; omega
theorem sevens_step (ws : List Int) (a m : Nat) (h : a + m < ws.length) : (sevens ws a m).set (a + m) 7 = sevens ws a (m + 1) := by
  refine eq_of_getD (by rw [List.length_set, sevens_length _ _ _ (by omega), sevens_length _ _ _ (by omega)]) (fun t => ?_)
  rw [sevens_get _ _ _ _ (by omega)]
  by_cases e : t = a + m
  · subst e; rw [set_get_same _ _ _ (by rw [sevens_length _ _ _ (by omega)]; exact h), if_pos (by omega)]
  · rw [set_get_other _ _ _ _ (fun e' => e e'.symm), sevens_get _ _ _ _ (by omega)]
    by_cases e2 : a ≤ t ∧ t < a + m
    · rw [if_pos e2, if_pos (by omega)]
    · rw [if_neg e2, if_neg (by omega)]
theorem sevens_zero (ws : List Int) (a : Nat) : sevens ws a 0 = ws := by simp [sevens]
theorem kind_put (kd : List PK) (p k : Nat) (hk : 1 ≤ k) (h : p + k ≤ kd.length) : (sevens (kindL kd) p k).set p 6 = kindL (putParts kd p k) := by
  refine eq_of_getD (by rw [List.length_set, sevens_length _ _ _ (by rw [kindL_length]; exact h), kindL_length, kindL_length, putParts_length]) (fun t => ?_)
  rw [kindL_get, putParts_at _ _ _ _ h]
  by_cases e : t = p
  · subst e; rw [set_get_same _ _ _ (by rw [sevens_length _ _ _ (by rw [kindL_length]; exact h), kindL_length]; omega), if_pos (by omega), Nat.sub_self]; rfl
  · rw [set_get_other _ _ _ _ (fun e' => e e'.symm), sevens_get _ _ _ _ (by rw [kindL_length]; exact h), kindL_get]
    by_cases e2 : p ≤ t ∧ t < p + k
    · rw [if_pos e2, if_pos e2]
      obtain ⟨m, hm⟩ : ∃ m, t - p = m + 1 := ⟨t - p - 1, by omega⟩
      rw [hm]; rfl
    · rw [if_neg e2, if_neg e2]

set_option maxHeartbeats 4000000 in
theorem ralloc_large (mb k p : Nat) (n : Int) (L : RLay) (F : List Nat) (ws : List Int) (kd : List PK) (w : World) (h : RpAt w mb L F ws (kindL kd) (bigL kd) kd) (hw : WF kd) (hc : classI n = -1) (hp : pagesI n = k) (hk1 : 1 ≤ k) (hr : runR (takenL kd) 0 k = p) :
    Calls Tryz.prog 60 #[.pointer (some ⟨mb, 0, none⟩), .int .i64 n] w fun e w' => e = .returned (.agg #[.int .i64 ((64 * p : Nat) : Int), .int .i64 0]) ∧ RpAt w' mb L F (fill0 ws (64 * p) (64 * k)) (kindL (putParts kd p k)) (bigL (putParts kd p k)) (putParts kd p k) ∧ Keep F w w' := by
  have hk16 : k ≤ 16 := by have := (pages_le n).2; omega
  have hb : blockI n = ((64 * k : Nat) : Int) := by rw [block_none n hc, hp]; omega
  obtain ⟨b, hbb⟩ : ∃ b, 64 * k = b := ⟨_, rfl⟩
  rw [hbb] at hb
  have HB := (show Hid (blockI n = (b : Nat)) from hb)
  have HC := (show Hid (classI n = -1) from hc)
  have hbn : decide ((b : Int) = 0) = false := by rw [decide_eq_false_iff_not]; omega
  have hq1 : (b : Int) / 64 = k := by omega
  have hq2 : (b : Int).tdiv 64 = k := by rw [Int.tdiv_eq_ediv_of_nonneg (by omega)]; exact hq1
  have HR := (show Hid (runR (takenL kd) 0 k = p) from hr)
  have hcl := run_clear hk1 hr
  obtain ⟨hpl, hfree⟩ := clear_free hcl
  have HBG := (show Hid (bigL (putParts kd p k) = (bigL kd).set p k) from big_put kd p k hk1 hcl)
  have HKD := (show Hid ((sevens (kindL kd) p k).set p 6 = kindL (putParts kd p k)) from kind_put kd p k hk1 hpl)
  have HSO := (show Hid (∀ q, kat (putParts kd p k) q = kat kd q ∨ (∀ c xs, kat (putParts kd p k) q ≠ .small c xs) ∧ (∀ c xs, kat kd q ≠ .small c xs)) from fun q => by
    rw [putParts_at kd p k q hpl]
    by_cases e : p ≤ q ∧ q < p + k
    · right; rw [if_pos e, hfree q e.1 e.2]; simp
    · left; rw [if_neg e])
  have f := h.f
  have hFlt := h.lt
  have HM := (show Hid (RpAt w mb L F ws (kindL kd) (bigL kd) kd) from h)
  have HW := (show Hid (WF kd) from hw)
  have hx := heap_alloc_new w (.cells #[.int .i64 0, .int .i64 0] 34)
  have hK := Keep.alloc [] w (.cells #[.int .i64 0, .int .i64 0] 34)
  obtain ⟨bx, hbx⟩ : ∃ bx, w.heap.size = bx := ⟨_, rfl⟩
  rw [hbx] at hx
  obtain ⟨nn, hnn⟩ : ∃ nn, kd.length = nn := ⟨_, rfl⟩
  have HN := (show Hid (kd.length = nn) from hnn)
  have hn2 : nn ≤ 256 := by rw [← hnn]; exact hw.len2
  rw [hnn] at hpl
  have hbF : bx ∉ F := fun e => by have := hFlt _ e; omega
  obtain ⟨z, hz⟩ : ∃ z, p + k = z := ⟨_, rfl⟩
  have hzi : (p : Int) + k = z := by omega
  have hzn : z ≤ nn := by omega
  have hp0 : decide ((p : Int) < 0) = false := by rw [decide_eq_false_iff_not]; omega
  obtain ⟨y, hy⟩ : ∃ y : Nat, 64 * p = y := ⟨_, rfl⟩
  have hyi : (p : Int) * 64 = y := by omega
  rw [hy]
  rw [hbb]
  clear hcl hfree
  clear h hw hc hp hr hb hnn
  go_enter Tryz.func60, Tryz.ntmps60
  go_wp2_with fail
  refine (rblock_any _ _).mono ?_
  rw [HB.out]
  rintro e w1 ⟨rfl, hK1⟩
  go_wp2_with fail
  refine (rclass_any _ _).mono ?_
  rw [HC.out]
  rintro e w2 ⟨rfl, hK2⟩
  have hK3 := (hK.trans hK1).trans hK2
  have hM2 := HM.out.keep0 hK3
  go_wp2_with fail
  refine (rpages_ok mb L F ws (bigL kd) kd w2 hM2 HW.out.len1 HW.out.len2).mono ?_
  rw [HN.out]
  rintro e w3 ⟨g, rfl, hBR, hK4, hg⟩
  clear hM2
  go_wp2_with fail
  refine (run_dn g nn nn k (takenL kd) w3 hBR (by rw [takenL_length, HN.out]) (by omega) hk1).mono ?_
  rw [HR.out]
  rintro e w' ⟨rfl, rfl⟩
  have hx1 := ((hK1.trans hK2).trans hK4).blk hx (by simp)
  have hM3 := HM.out.keep0 (hK3.trans hK4)
  have hKF := (hK3.trans hK4).mono (T := F) (by simp)
  clear hBR hK1 hK2 hK3 hK4 hx hK hg
  go_wp2_with fail
  go_loopw [9] (fun i wr => ∃ j : Nat, i = .int .i64 j ∧ p ≤ j ∧ j ≤ z ∧ RpAt wr mb L F ws (sevens (kindL kd) p (j - p)) (bigL kd) kd ∧ Keep F w wr ∧ wr.heap[bx]? = some (.cells #[.int .i64 0, .int .i64 0] 34 (0, 0))) (fun i _ => z - (intOf i).toNat)
  case atStart => exact ⟨p, rfl, by omega, by omega, by rw [Nat.sub_self, sevens_zero]; exact hM3, hKF, hx1⟩
  case round =>
    obtain ⟨j, rfl, hj1, hj2, hR, hK, hxr⟩ := hrel
    obtain ⟨w4, rfl⟩ : ∃ w4, w4 = wr := ⟨_, rfl⟩
    clear hM3 hKF hx1
    by_cases hlt : j < z
    · have c1 := hR.c1
      rw [HN.out] at c1
      have ck := hR.ck (p := j) (by rw [HN.out]; omega)
      have fk := hR.rowK.free j
      have hR2 := hR.setK j 7
      have e : (sevens (kindL kd) p (j - p)).set j 7 = sevens (kindL kd) p (j + 1 - p) := by
        have := sevens_step (kindL kd) p (j - p) (by rw [kindL_length, HN.out]; omega)
        rw [show p + (j - p) = j by omega] at this
        rw [this, show j - p + 1 = j + 1 - p by omega]
      rw [e] at hR2
      have HR2 := (show Hid (RpAt (w4.setCell ⟨L.gk, j, none⟩ (.int .i64 7)) mb L F ws (sevens (kindL kd) p (j + 1 - p)) (bigL kd) kd) from hR2)
      have HK2 := (show Hid (Keep F w (w4.setCell ⟨L.gk, j, none⟩ (.int .i64 7))) from hK.trans (Keep.setCell _ _ f.2.2.1))
      have HX2 := (show Hid ((w4.setCell ⟨L.gk, j, none⟩ (.int .i64 7)).heap[bx]? = some (.cells #[.int .i64 0, .int .i64 0] 34 (0, 0))) from (Keep.setCell (S := F) w4 _ f.2.2.1).blk hxr hbF)
      clear hR hR2 e hK hxr
      go_wp2
      go_roundw
      case rel => exact ⟨j + 1, by go_num, by omega, by omega, HR2.out, HK2.out, HX2.out⟩
      case measure => simp [intOf]; omega
    · obtain rfl : j = z := by omega
      rw [show j - p = k by omega] at hR
      have c1 := hR.c1
      rw [HN.out] at c1
      have ck := hR.ck (p := p) (by rw [HN.out]; omega)
      have fk := hR.rowK.free p
      have hR5 := hR.setK p 6
      rw [HKD.out] at hR5
      have c2 := hR5.c2
      rw [HN.out] at c2
      have cm := hR5.cm (p := p) (by rw [HN.out]; omega)
      have fm := hR5.rowM.free p
      have hR6 := (hR5.setM p k).other (putParts_length kd p k) HSO.out
      rw [← HBG.out] at hR6
      have hK6 := (hK.trans (Keep.setCell w4 (.int .i64 6) (a := ⟨L.gk, p, none⟩) f.2.2.1)).trans (Keep.setCell _ (.int .i64 (k : Int)) (a := ⟨L.gm, p, none⟩) f.2.2.2.1)
      have hx6 := (Keep.setCell (S := F) _ (.int .i64 (k : Int)) (a := ⟨L.gm, p, none⟩) f.2.2.2.1).blk ((Keep.setCell (S := F) w4 (.int .i64 6) (a := ⟨L.gk, p, none⟩) f.2.2.1).blk hxr hbF) hbF
      have HR6 := (show Hid (RpAt ((w4.setCell ⟨L.gk, p, none⟩ (.int .i64 6)).setCell ⟨L.gm, p, none⟩ (.int .i64 (k : Int))) mb L F ws (kindL (putParts kd p k)) (bigL (putParts kd p k)) (putParts kd p k)) from hR6)
      clear hR hR5 hR6 hK hxr
      go_wp2_with fail
      generalize (w4.setCell ⟨L.gk, p, none⟩ (.int .i64 6)).setCell ⟨L.gm, p, none⟩ (.int .i64 (k : Int)) = w6 at *
      refine (rfill_any mb y b L F ws _ _ _ w6 HR6.out (by rw [putParts_length, HN.out]; omega) (by rw [putParts_length, HN.out]; omega)).mono ?_
      rintro e w7 ⟨rfl, hR7, hK7⟩
      have hK8 := hK6.trans (hK7.mono (fun q e => by simp at e; subst e; exact f.2.1))
      have hx7 := hK7.blk hx6 (by simp; intro e; exact hbF (e ▸ f.2.1))
      have f0 : w7.frozen? ⟨bx, 0, none⟩ = false := by simp [World.frozen?, hx7]
      have f1 : w7.frozen? ⟨bx, 1, none⟩ = false := by simp [World.frozen?, hx7]
      have g0 : w7.cell? ⟨bx, 0, none⟩ = some (.int .i64 0) := by simp [World.cell?, hx7]
      have g1 : w7.cell? ⟨bx, 1, none⟩ = some (.int .i64 0) := by simp [World.cell?, hx7]
      have HKZ := (show Hid (∀ a b, Keep F w ((w7.setCell ⟨bx, 0, none⟩ a).setCell ⟨bx, 1, none⟩ b)) from fun a b => Keep.two hK8 (by omega))
      have HRZ := (show Hid (∀ u v, RpAt ((w7.setCell ⟨bx, 0, none⟩ u).setCell ⟨bx, 1, none⟩ v) mb L F (fill0 ws y b) (kindL (putParts kd p k)) (bigL (putParts kd p k)) (putParts kd p k)) from fun u v => hR7.keep (S := [bx]) ((Keep.setCell w7 u (a := ⟨bx, 0, none⟩) (by simp)).trans (Keep.setCell _ v (a := ⟨bx, 1, none⟩) (by simp))) (fun q hq e => by simp at e; subst e; exact hbF hq))
      clear hR7 hK7 hK8 HR6 hx6 hK6
      go_wp2
      refine bodyPost_ret (results_cell_row rfl _ _ bx 34 #[.int .i64 y, .int .i64 0] (0, 0) _ rfl (two_set hx7) Tryz.underlying34 rfl (by kernel_rfl)) rfl ?_
      exact ⟨rfl, HRZ.out _ _, HKZ.out _ _⟩

end Go.Proofs.YtamcoejlghfleaaGreat

/-
  Alloc of the document's own space: blocks of a class.
-/
namespace Go.Proofs.YtamcoejlghfleaaGreat
open Go.RowKit

theorem kindSame {kd : List PK} {p c : Nat} {xs ys : List Bool} (hk : kat kd p = .small c xs) : kindL (kd.set p (.small c ys)) = kindL kd := by
  have hp := kat_lt kd p (by rw [hk]; simp)
  refine eq_of_getD (by simp [kindL]) (fun t => ?_)
  rw [kindL_get, kindL_get, kat_set _ _ _ _ hp]
  split
  · rename_i e; subst e; rw [hk]; rfl
  · rfl
theorem bigSame {kd : List PK} {p c : Nat} {xs ys : List Bool} (hk : kat kd p = .small c xs) : bigL (kd.set p (.small c ys)) = bigL kd := by
  have hp := kat_lt kd p (by rw [hk]; simp)
  refine eq_of_getD (by simp [bigL]) (fun t => ?_)
  rw [bigL_get, bigL_get, kat_set _ _ _ _ hp]
  split
  · rename_i e; subst e; rw [hk]; rfl
  · rfl
/-- Page j of the document's own, as one looks for room of class c. -/
theorem kind_look {kd : List PK} (c j : Nat) (hc : c < 5) : ((kat kd j).kind ≠ (c : Int) + 1 ∧ (kat kd j).has c = false) ∨ ∃ xs, kat kd j = .small c xs ∧ (kat kd j).has c = !allB xs := by
  cases e : kat kd j with
  | small d xs =>
    by_cases h : d = c
    · subst h; exact .inr ⟨xs, rfl, by simp [PK.has]⟩
    · exact .inl ⟨by show (d : Int) + 1 ≠ (c : Int) + 1; omega, by simp [PK.has, h]⟩
  | part j k =>
    cases j with
    | zero => exact .inl ⟨by show (6 : Int) ≠ (c : Int) + 1; omega, rfl⟩
    | succ j => exact .inl ⟨by show (7 : Int) ≠ (c : Int) + 1; omega, rfl⟩
  | zero => exact .inl ⟨by show (-1 : Int) ≠ (c : Int) + 1; omega, rfl⟩
  | free => exact .inl ⟨by show (0 : Int) ≠ (c : Int) + 1; omega, rfl⟩

set_option maxRecDepth 100000 in
set_option maxHeartbeats 8000000 in
theorem ralloc_old (mb c p i : Nat) (n : Int) (xs : List Bool) (L : RLay) (F : List Nat) (ws : List Int) (kd : List PK) (w : World) (h : RpAt w mb L F ws (kindL kd) (bigL kd) kd) (hw : WF kd) (hcl : classI n = c) (hc : c < 5) (hp : nextR (hasL c kd) 0 true = p) (hk : kat kd p = .small c xs) (hi : nextR xs 0 false = i) (hil : i < xs.length) :
    Calls Tryz.prog 60 #[.pointer (some ⟨mb, 0, none⟩), .int .i64 n] w fun e w' => e = .returned (.agg #[.int .i64 ((64 * p + i * sz c : Nat) : Int), .int .i64 0]) ∧ RpAt w' mb L F (fill0 ws (64 * p + i * sz c) (sz c)) (kindL (kd.set p (.small c (xs.set i true)))) (bigL (kd.set p (.small c (xs.set i true)))) (kd.set p (.small c (xs.set i true))) ∧ Keep F w w' := by
  obtain ⟨hc5, hxl, _⟩ := hw.small p c xs hk
  obtain ⟨z1, z2, z3, z4, z5, z6, z7⟩ := sz_facts c hc
  have hpl := kat_lt kd p (by rw [hk]; simp)
  have hpn : ∀ t, t < p → (kat kd t).has c = false := by
    rcases nextR_spec (hasL c kd) true _ 0 rfl with ⟨e, _⟩ | ⟨j, e, _, _, _, e4⟩
    · rw [hp] at e; omega
    · obtain rfl : p = j := by rw [hp] at e; omega
      intro t ht
      have := e4 t (by omega) ht
      rw [hasL_get] at this
      simpa using this
  have HPN := (show Hid (∀ t, t < p → (kat kd t).has c = false) from hpn)
  have hbl : blockI n = ((sz c : Nat) : Int) := by rw [block_class n c hcl]; exact z1
  have hle : 64 * p + i * sz c + sz c ≤ 64 * kd.length := by
    have : i * sz c + sz c ≤ 64 := by
      have h1 : (i + 1) * sz c ≤ roomOf c * sz c := Nat.mul_le_mul_right _ (by omega)
      rw [Nat.add_mul, Nat.one_mul, Nat.mul_comm (roomOf c), z2] at h1
      exact h1
    omega
  obtain ⟨s, hs⟩ : ∃ s, sz c = s := ⟨_, rfl⟩
  rw [hs] at hbl z3 z4 hle ⊢
  have HB := (show Hid (blockI n = (s : Nat)) from hbl)
  have HC := (show Hid (classI n = c) from hcl)
  have hbn : decide ((s : Int) = 0) = false := by rw [decide_eq_false_iff_not]; omega
  have hc0 : decide ((c : Int) < 0) = false := by rw [decide_eq_false_iff_not]; omega
  have HM := (show Hid (RpAt w mb L F ws (kindL kd) (bigL kd) kd) from h)
  have HKK := (show Hid (kat kd p = .small c xs) from hk)
  have HPL := (show Hid (p < kd.length) from hpl)
  have HI := (show Hid (nextR xs (0 : Int).toNat false = i) from hi)
  have HIL := (show Hid (i < xs.length) from hil)
  have f := h.f
  have ffp := h.fp p c xs hk
  have hFlt := h.lt
  have hx := heap_alloc_new w (.cells #[.int .i64 0, .int .i64 0] 34)
  have hK := Keep.alloc [] w (.cells #[.int .i64 0, .int .i64 0] 34)
  obtain ⟨bx, hbx⟩ : ∃ bx, w.heap.size = bx := ⟨_, rfl⟩
  rw [hbx] at hx
  have hbF : bx ∉ F := fun e => by have := hFlt _ e; omega
  obtain ⟨nn, hnn⟩ : ∃ nn, kd.length = nn := ⟨_, rfl⟩
  have HN := (show Hid (kd.length = nn) from hnn)
  have hn2 : nn ≤ 256 := by rw [← hnn]; exact hw.len2
  have hpnn : p < nn := by omega
  have HLE := (show Hid (64 * p + i * s + s ≤ 64 * kd.length) from hle)
  obtain ⟨xl, hxl2⟩ : ∃ xl, xs.length = xl := ⟨_, rfl⟩
  have HXL := (show Hid (xs.length = xl) from hxl2)
  have hxb : xl ≤ 32 := by omega
  have hixl : i < xl := by omega
  have HLX := (show Hid (∀ t ys, kat kd t = .small c ys → ys.length ≤ 32) from fun t ys e => by
    obtain ⟨_, hl, _⟩ := hw.small t c ys e
    have := (sz_facts c hc).2.2.2.2.2.1
    show ys.length ≤ 32
    omega)
  obtain ⟨y, hy⟩ : ∃ y : Nat, i * s = y := ⟨_, rfl⟩
  have hyb : y ≤ 32 * 32 := by rw [← hy]; exact Nat.mul_le_mul (by omega) z4
  have hyi : (i : Int) * (s : Int) = y := by rw [← hy]; exact (Int.natCast_mul i s).symm
  have hyw : IntKind.i64.wrap ((i : Int) * s) = y := by rw [hyi]; exact IntWalk.i64_in _ (by omega)
  rw [hy] at HLE ⊢
  obtain ⟨u, hu⟩ : ∃ u : Nat, 64 * p + y = u := ⟨_, rfl⟩
  have hui : (p : Int) * 64 + y = u := by omega
  have hub : u ≤ 20000 := by omega
  rw [hu] at HLE ⊢
  have hi0 : decide ((i : Int) < 0) = false := by rw [decide_eq_false_iff_not]; omega
  have hpe : decide ((p : Int) = (nn : Int)) = false := by rw [decide_eq_false_iff_not]; omega
  clear h hw hcl hp hk hi hil hpn hbl hle hs hnn hxl hxl2 hy hu hpl z1 z2 z5 z6 z7 hc5
  go_enter Tryz.func60, Tryz.ntmps60
  go_wp2_with fail
  refine (rblock_any _ _).mono ?_
  rw [HB.out]
  rintro e w1 ⟨rfl, hK1⟩
  go_wp2_with fail
  refine (rclass_any _ _).mono ?_
  rw [HC.out]
  rintro e w2 ⟨rfl, hK2⟩
  have hK3 := (hK.trans hK1).trans hK2
  have hM2 := HM.out.keep0 hK3
  have hx2 := (hK1.trans hK2).blk hx (by simp)
  have c1 := hM2.c1
  have c3 := hM2.c3
  rw [HN.out] at c1 c3
  have HM2 := (show Hid (RpAt w2 mb L F ws (kindL kd) (bigL kd) kd) from hM2)
  clear hM2 hK1 hK2 hK hx
  go_wp2_with fail
  go_loop [10] (fun v => ∃ j : Nat, v = .int .i64 j ∧ j ≤ p) (fun v => nn - (intOf v).toNat)
  case atStart => exact ⟨0, rfl, by omega⟩
  case round =>
    obtain ⟨j, rfl, hj⟩ := hrel
    have ck := HM2.out.ck (p := j) (by rw [HN.out]; omega)
    rw [kindL_get] at ck
    have hjn : decide ((j : Int) < (nn : Int)) = true := by rw [decide_eq_true_iff]; omega
    by_cases hlt : j < p
    · have HF := HPN.out j hlt
      rcases kind_look (kd := kd) c j hc with ⟨hk1, _⟩ | ⟨ys, hk1, hh⟩
      · generalize (kat kd j).kind = kv at *
        have hkd : decide (kv = (c : Int) + 1) = false := by rw [decide_eq_false_iff_not]; exact hk1
        clear HF
        go_wp2_with fail
        go_round
        case rel => exact ⟨j + 1, by go_num, by omega⟩
        case measure => simp [intOf]; omega
      · rw [hk1] at ck
        have hck : w2.cell? ⟨L.gk, j, none⟩ = some (.int .i64 ((c : Int) + 1)) := ck
        have ct : w2.cell? ⟨L.gt, j, none⟩ = some (.slice (some ⟨L.T j, 0, none⟩) ys.length ys.length) := by
          have := HM2.out.ct (p := j) (by rw [HN.out]; omega)
          rw [hk1] at this; exact this
        have hBR := HM2.out.page j c ys hk1
        have HYA := (show Hid (nextR ys (0 : Int).toNat false = -1) from by
          have ha := bool_no HF hh
          unfold allB at ha
          rcases nextR_spec ys false _ 0 rfl with ⟨e, _⟩ | ⟨l, e, _⟩
          · exact e
          · rw [e] at ha; have := of_decide_eq_true ha; omega)
        have hyl := HLX.out j ys hk1
        clear HF hh ck hk1
        go_wp2_with (first | (go_at_call 88; refine (rnext_any (L.T j) ys.length ys.length 0 false ys w2 hBR rfl (by omega) (by omega)).mono ?_; rw [HYA.out]; rintro e w' ⟨rfl, rfl⟩))
        go_round
        case rel => exact ⟨j + 1, by go_num, by omega⟩
        case measure => simp [intOf]; omega
    · obtain rfl : j = p := by omega
      have hck : w2.cell? ⟨L.gk, j, none⟩ = some (.int .i64 ((c : Int) + 1)) := by rw [HKK.out] at ck; exact ck
      have ct : w2.cell? ⟨L.gt, j, none⟩ = some (.slice (some ⟨L.T j, 0, none⟩) xl xl) := by
        have := HM2.out.ct (p := j) HPL.out
        rw [HKK.out] at this
        rw [← HXL.out]; exact this
      have hBR := HM2.out.page j c xs HKK.out
      have cx := hBR.cell HIL.out
      have fx := hBR.free i
      have hS4 := HM2.out.inner (i := i) (b := true) HKK.out
      have HS4 := (show Hid (RpAt (w2.setCell ⟨L.T j, i, none⟩ (.bool true)) mb L F ws (kindL kd) (bigL kd) (kd.set j (.small c (xs.set i true)))) from hS4)
      have hK4 := (hK3.mono (T := F) (by simp)).trans (Keep.setCell w2 (.bool true) (a := ⟨L.T j, i, none⟩) ffp)
      have hx4 := (Keep.setCell (S := F) w2 (.bool true) (a := ⟨L.T j, i, none⟩) ffp).blk hx2 hbF
      clear ck hS4
      go_wp2_with (first | (go_at_call 88; refine (rnext_any (L.T j) xl xl 0 false xs w2 hBR HXL.out (by omega) (by omega)).mono ?_; rw [HI.out]; rintro e w' ⟨rfl, rfl⟩))
      generalize w2.setCell ⟨L.T j, i, none⟩ (.bool true) = w6 at *
      refine (rfill_any mb u s L F ws _ _ _ w6 HS4.out (by rw [List.length_set]; exact HLE.out) (by rw [List.length_set, HN.out]; exact hn2)).mono ?_
      rintro e w7 ⟨rfl, hR7, hK7⟩
      have hK8 := hK4.trans (hK7.mono (fun q e => by simp at e; subst e; exact f.2.1))
      have hx7 := hK7.blk hx4 (by simp; intro e; exact hbF (e ▸ f.2.1))
      have f0 : w7.frozen? ⟨bx, 0, none⟩ = false := by simp [World.frozen?, hx7]
      have f1 : w7.frozen? ⟨bx, 1, none⟩ = false := by simp [World.frozen?, hx7]
      have g0 : w7.cell? ⟨bx, 0, none⟩ = some (.int .i64 0) := by simp [World.cell?, hx7]
      have g1 : w7.cell? ⟨bx, 1, none⟩ = some (.int .i64 0) := by simp [World.cell?, hx7]
      have HKZ := (show Hid (∀ a b, Keep F w ((w7.setCell ⟨bx, 0, none⟩ a).setCell ⟨bx, 1, none⟩ b)) from fun a b => Keep.two hK8 (by omega))
      have HRZ := (show Hid (∀ p q, RpAt ((w7.setCell ⟨bx, 0, none⟩ p).setCell ⟨bx, 1, none⟩ q) mb L F (fill0 ws u s) (kindL kd) (bigL kd) (kd.set j (.small c (xs.set i true)))) from fun p q => hR7.keep (S := [bx]) ((Keep.setCell w7 p (a := ⟨bx, 0, none⟩) (by simp)).trans (Keep.setCell _ q (a := ⟨bx, 1, none⟩) (by simp))) (fun k hq e => by simp at e; subst e; exact hbF hq))
      have HKS := (show Hid (kindL (kd.set j (.small c (xs.set i true))) = kindL kd ∧ bigL (kd.set j (.small c (xs.set i true))) = bigL kd) from ⟨kindSame HKK.out, bigSame HKK.out⟩)
      clear hR7 hK7 hK8 HS4 hx4 hK4
      go_wp2
      refine bodyPost_ret (results_cell_row rfl _ _ bx 34 #[.int .i64 u, .int .i64 0] (0, 0) _ rfl (two_set hx7) Tryz.underlying34 rfl (by kernel_rfl)) rfl ?_
      refine ⟨rfl, ?_, HKZ.out _ _⟩
      rw [HKS.out.1, HKS.out.2]
      exact HRZ.out _ _

end Go.Proofs.YtamcoejlghfleaaGreat
