/-
  The document's own space in memory: its block, its words, what its pages are, and what one write leaves of it.
-/
import Derived.Test.YtfmfnmpibnddmaaSpaceM2
import Derived.Test.YtfmfnmpibnddmaaArena
namespace Go.Proofs.Ytfmfnmpibnddmaa
open Go.RowKit

def PK.kind : PK → Int
  | .zero => -1
  | .free => 0
  | .small c _ => (c : Int) + 1
  | .part 0 _ => 6
  | .part _ _ => 7
def kindL (kd : List PK) : List Int := kd.map PK.kind
theorem kindL_length (kd : List PK) : (kindL kd).length = kd.length := by simp [kindL]
theorem kindL_get (kd : List PK) (p : Nat) : (kindL kd)[p]?.getD 0 = (kat kd p).kind := by
  unfold kindL kat
  rcases Nat.lt_or_ge p kd.length with h | h
  · simp [h]
  · rw [List.getElem?_eq_none (by simpa using h), List.getElem?_eq_none h]; rfl
/-- Where its blocks lie; r tells them apart. -/
structure RLay where
  gw : Nat
  gk : Nat
  gm : Nat
  gt : Nat
  T : Nat → Nat
  r : Nat → Nat
def PK.slot (q : Nat) : PK → Value
  | .small _ xs => .slice (some ⟨q, 0, none⟩) xs.length xs.length
  | _ => .slice none 0 0
def slots (L : RLay) (kd : List PK) : List Value := kd.mapIdx (fun p x => x.slot (L.T p))
theorem slots_length (L : RLay) (kd : List PK) : (slots L kd).length = kd.length := by simp [slots]
theorem slots_get (L : RLay) (kd : List PK) (p : Nat) (h : p < kd.length) : (slots L kd)[p]? = some ((kat kd p).slot (L.T p)) := by
  unfold slots; rw [List.getElem?_mapIdx, kat_get kd p h]; rfl
theorem ne_role {r : Nat → Nat} {a b m n : Nat} (h1 : r a = m) (h2 : r b = n) (h : m ≠ n) : a ≠ b := fun e => h (by rw [← h1, ← h2, e])

/-- Block mb is the document's space laid out as L, all of whose blocks are of F: its words, its kinds, its larger blocks, and of kd the blocks of its pages of a class. -/
structure RpAt (w : World) (mb : Nat) (L : RLay) (F : List Nat) (ws ks ms : List Int) (kd : List PK) : Prop where
  head : w.heap[mb]? = some (.cells #[.slice (some ⟨L.gw, 0, none⟩) (64 * kd.length) (64 * kd.length), .slice (some ⟨L.gk, 0, none⟩) kd.length kd.length, .slice (some ⟨L.gm, 0, none⟩) kd.length kd.length, .slice (some ⟨L.gt, 0, none⟩) kd.length kd.length] 51 (0, 0))
  rowW : Row w 3 L.gw ws
  rowK : Row w 3 L.gk ks
  rowM : Row w 3 L.gm ms
  rowT : w.heap[L.gt]? = some (.cells (slots L kd).toArray 71 (0, 0))
  page : ∀ p c xs, kat kd p = .small c xs → BRow w 4 (L.T p) xs
  lw : ws.length = 64 * kd.length
  lk : ks.length = kd.length
  lm : ms.length = kd.length
  r0 : L.r mb = 0
  r1 : L.r L.gw = 1
  r2 : L.r L.gk = 2
  r3 : L.r L.gm = 3
  r4 : L.r L.gt = 4
  rp : ∀ p c xs, kat kd p = .small c xs → L.r (L.T p) = 5 + p
  f : mb ∈ F ∧ L.gw ∈ F ∧ L.gk ∈ F ∧ L.gm ∈ F ∧ L.gt ∈ F
  fp : ∀ p c xs, kat kd p = .small c xs → L.T p ∈ F
  lt : ∀ k, k ∈ F → k < w.heap.size

theorem ltKeep {S F : List Nat} {w w' : World} (h : ∀ k, k ∈ F → k < w.heap.size) (K : Keep S w w') : ∀ k, k ∈ F → k < w'.heap.size := fun k hk => Nat.lt_of_lt_of_le (h k hk) K.size

section
variable {S F : List Nat} {w w' : World} {mb : Nat} {L : RLay} {ws ks ms : List Int} {kd : List PK}

theorem RpAt.keep (h : RpAt w mb L F ws ks ms kd) (K : Keep S w w') (hS : ∀ k, k ∈ F → k ∉ S) : RpAt w' mb L F ws ks ms kd := by
  obtain ⟨f0, f1, f2, f3, f4⟩ := h.f
  exact { h with
    head := K.blk h.head (hS _ f0), rowW := h.rowW.keep K (hS _ f1), rowK := h.rowK.keep K (hS _ f2), rowM := h.rowM.keep K (hS _ f3), rowT := K.blk h.rowT (hS _ f4),
    page := fun p c xs e => (h.page p c xs e).keep K (hS _ (h.fp p c xs e)), lt := ltKeep h.lt K }
theorem RpAt.keep0 (h : RpAt w mb L F ws ks ms kd) (K : Keep [] w w') : RpAt w' mb L F ws ks ms kd := h.keep K (by simp)
theorem RpAt.c0 (h : RpAt w mb L F ws ks ms kd) : w.cell? ⟨mb, 0, none⟩ = some (.slice (some ⟨L.gw, 0, none⟩) (64 * kd.length) (64 * kd.length)) := by simp [World.cell?, h.head]
theorem RpAt.c1 (h : RpAt w mb L F ws ks ms kd) : w.cell? ⟨mb, 1, none⟩ = some (.slice (some ⟨L.gk, 0, none⟩) kd.length kd.length) := by simp [World.cell?, h.head]
theorem RpAt.c2 (h : RpAt w mb L F ws ks ms kd) : w.cell? ⟨mb, 2, none⟩ = some (.slice (some ⟨L.gm, 0, none⟩) kd.length kd.length) := by simp [World.cell?, h.head]
theorem RpAt.c3 (h : RpAt w mb L F ws ks ms kd) : w.cell? ⟨mb, 3, none⟩ = some (.slice (some ⟨L.gt, 0, none⟩) kd.length kd.length) := by simp [World.cell?, h.head]
theorem RpAt.cw (h : RpAt w mb L F ws ks ms kd) {p : Nat} (hp : p < 64 * kd.length) : w.cell? ⟨L.gw, p, none⟩ = some (.int .i64 (ws[p]?.getD 0)) := h.rowW.cell (by rw [h.lw]; exact hp)
theorem RpAt.ck (h : RpAt w mb L F ws ks ms kd) {p : Nat} (hp : p < kd.length) : w.cell? ⟨L.gk, p, none⟩ = some (.int .i64 (ks[p]?.getD 0)) := h.rowK.cell (by rw [h.lk]; exact hp)
theorem RpAt.cm (h : RpAt w mb L F ws ks ms kd) {p : Nat} (hp : p < kd.length) : w.cell? ⟨L.gm, p, none⟩ = some (.int .i64 (ms[p]?.getD 0)) := h.rowM.cell (by rw [h.lm]; exact hp)
theorem RpAt.ct (h : RpAt w mb L F ws ks ms kd) {p : Nat} (hp : p < kd.length) : w.cell? ⟨L.gt, p, none⟩ = some ((kat kd p).slot (L.T p)) := by
  have := slots_get L kd p hp
  simp [World.cell?, h.rowT, this]
theorem RpAt.ft (h : RpAt w mb L F ws ks ms kd) (p : Nat) : w.frozen? ⟨L.gt, p, none⟩ = false := by simp [World.frozen?, h.rowT]

/-- A word, a kind, a number of pages is written. -/
theorem RpAt.setW (h : RpAt w mb L F ws ks ms kd) (i : Nat) (x : Int) : RpAt (w.setCell ⟨L.gw, i, none⟩ (.int .i64 x)) mb L F (ws.set i x) ks ms kd := by
  have K : Keep [L.gw] w (w.setCell ⟨L.gw, i, none⟩ (.int .i64 x)) := Keep.setCell w _ (by simp)
  have n : ∀ {y m : Nat}, L.r y = m → m ≠ 1 → y ∉ [L.gw] := fun h1 h2 => by simpa using ne_role h1 h.r1 h2
  exact { h with
    head := K.blk h.head (n h.r0 (by omega)), rowW := h.rowW.put i x, rowK := h.rowK.keep K (n h.r2 (by omega)), rowM := h.rowM.keep K (n h.r3 (by omega)), rowT := K.blk h.rowT (n h.r4 (by omega)),
    page := fun p c xs e => (h.page p c xs e).keep K (n (h.rp p c xs e) (by omega)), lw := by simpa using h.lw, lt := ltKeep h.lt K }
theorem RpAt.setK (h : RpAt w mb L F ws ks ms kd) (i : Nat) (x : Int) : RpAt (w.setCell ⟨L.gk, i, none⟩ (.int .i64 x)) mb L F ws (ks.set i x) ms kd := by
  have K : Keep [L.gk] w (w.setCell ⟨L.gk, i, none⟩ (.int .i64 x)) := Keep.setCell w _ (by simp)
  have n : ∀ {y m : Nat}, L.r y = m → m ≠ 2 → y ∉ [L.gk] := fun h1 h2 => by simpa using ne_role h1 h.r2 h2
  exact { h with
    head := K.blk h.head (n h.r0 (by omega)), rowW := h.rowW.keep K (n h.r1 (by omega)), rowK := h.rowK.put i x, rowM := h.rowM.keep K (n h.r3 (by omega)), rowT := K.blk h.rowT (n h.r4 (by omega)),
    page := fun p c xs e => (h.page p c xs e).keep K (n (h.rp p c xs e) (by omega)), lk := by simpa using h.lk, lt := ltKeep h.lt K }
theorem RpAt.setM (h : RpAt w mb L F ws ks ms kd) (i : Nat) (x : Int) : RpAt (w.setCell ⟨L.gm, i, none⟩ (.int .i64 x)) mb L F ws ks (ms.set i x) kd := by
  have K : Keep [L.gm] w (w.setCell ⟨L.gm, i, none⟩ (.int .i64 x)) := Keep.setCell w _ (by simp)
  have n : ∀ {y m : Nat}, L.r y = m → m ≠ 3 → y ∉ [L.gm] := fun h1 h2 => by simpa using ne_role h1 h.r3 h2
  exact { h with
    head := K.blk h.head (n h.r0 (by omega)), rowW := h.rowW.keep K (n h.r1 (by omega)), rowK := h.rowK.keep K (n h.r2 (by omega)), rowM := h.rowM.put i x, rowT := K.blk h.rowT (n h.r4 (by omega)),
    page := fun p c xs e => (h.page p c xs e).keep K (n (h.rp p c xs e) (by omega)), lm := by simpa using h.lm, lt := ltKeep h.lt K }
theorem slots_same (L : RLay) (kd kd' : List PK) (hl : kd'.length = kd.length) (h : ∀ p, p < kd.length → (kat kd' p).slot (L.T p) = (kat kd p).slot (L.T p)) : slots L kd' = slots L kd := by
  apply List.ext_getElem?
  intro p
  rcases Nat.lt_or_ge p kd.length with hp | hp
  · rw [slots_get L kd p hp, slots_get L kd' p (by omega), h p hp]
  · rw [List.getElem?_eq_none (by rw [slots_length]; omega), List.getElem?_eq_none (by rw [slots_length]; omega)]
/-- What pages of no class are told for is turned: no memory is. -/
theorem RpAt.other {kd' : List PK} (h : RpAt w mb L F ws ks ms kd) (hl : kd'.length = kd.length) (hs : ∀ q, kat kd' q = kat kd q ∨ (∀ c xs, kat kd' q ≠ .small c xs) ∧ (∀ c xs, kat kd q ≠ .small c xs)) : RpAt w mb L F ws ks ms kd' := by
  have back : ∀ q d zs, kat kd' q = .small d zs → kat kd q = .small d zs := by
    intro q d zs e
    rcases hs q with e' | ⟨e', _⟩
    · rw [← e']; exact e
    · exact absurd e (e' d zs)
  exact { h with
    head := by rw [hl]; exact h.head
    rowT := by
      rw [slots_same L kd kd' hl (fun q _ => by
        rcases hs q with e | ⟨e1, e2⟩
        · rw [e]
        · have t : ∀ y : PK, (∀ c xs, y ≠ .small c xs) → y.slot (L.T q) = .slice none 0 0 := by
            intro y hy
            cases y with
            | small c xs => exact absurd rfl (hy c xs)
            | _ => rfl
          rw [t _ e1, t _ e2])]
      exact h.rowT
    page := fun q d zs e => h.page q d zs (back q d zs e)
    lw := by rw [hl]; exact h.lw
    lk := by rw [hl]; exact h.lk
    lm := by rw [hl]; exact h.lm
    rp := fun q d zs e => h.rp q d zs (back q d zs e)
    fp := fun q d zs e => h.fp q d zs (back q d zs e) }
/-- A block of a page of a class is written. -/
theorem RpAt.inner {p c i : Nat} {xs : List Bool} {b : Bool} (h : RpAt w mb L F ws ks ms kd) (hk : kat kd p = .small c xs) : RpAt (w.setCell ⟨L.T p, i, none⟩ (.bool b)) mb L F ws ks ms (kd.set p (.small c (xs.set i b))) := by
  have hp := kat_lt kd p (by rw [hk]; simp)
  have K : Keep [L.T p] w (w.setCell ⟨L.T p, i, none⟩ (.bool b)) := Keep.setCell w _ (by simp)
  have rp := h.rp p c xs hk
  have n : ∀ {y m : Nat}, L.r y = m → m ≠ 5 + p → y ∉ [L.T p] := fun h1 h2 => by simpa using ne_role h1 rp h2
  have back : ∀ q d zs, kat (kd.set p (.small c (xs.set i b))) q = .small d zs → q = p ∧ d = c ∧ zs = xs.set i b ∨ q ≠ p ∧ kat kd q = .small d zs := by
    intro q d zs e
    rw [kat_set _ _ _ _ hp] at e
    split at e
    · cases e; exact .inl ⟨by assumption, rfl, rfl⟩
    · exact .inr ⟨by assumption, e⟩
  exact { h with
    head := by rw [List.length_set]; exact K.blk h.head (n h.r0 (by omega))
    rowW := h.rowW.keep K (n h.r1 (by omega))
    rowK := h.rowK.keep K (n h.r2 (by omega))
    rowM := h.rowM.keep K (n h.r3 (by omega))
    rowT := by
      rw [slots_same L kd (kd.set p (.small c (xs.set i b))) (by simp) (fun q hq => by
        rw [kat_set _ _ _ _ hp]
        split
        · rename_i e; subst e; rw [hk]; simp [PK.slot]
        · rfl)]
      exact K.blk h.rowT (n h.r4 (by omega))
    page := fun q d zs e => by
      rcases back q d zs e with ⟨rfl, rfl, rfl⟩ | ⟨hne, e'⟩
      · exact (h.page q d xs hk).put i b
      · have := h.rp q d zs e'
        exact (h.page q d zs e').keep K (n this (by omega))
    lw := by rw [List.length_set]; exact h.lw
    lk := by rw [List.length_set]; exact h.lk
    lm := by rw [List.length_set]; exact h.lm
    rp := fun q d zs e => by
      rcases back q d zs e with ⟨rfl, rfl, rfl⟩ | ⟨_, e'⟩
      · exact h.rp q d xs hk
      · exact h.rp q d zs e'
    fp := fun q d zs e => by
      rcases back q d zs e with ⟨rfl, rfl, rfl⟩ | ⟨_, e'⟩
      · exact h.fp q d xs hk
      · exact h.fp q d zs e'
    lt := ltKeep h.lt K }
/-- A page is of no class any more. -/
theorem RpAt.drop {p c : Nat} {xs : List Bool} (h : RpAt w mb L F ws ks ms kd) (hk : kat kd p = .small c xs) : RpAt (w.setCell ⟨L.gt, p, none⟩ (.slice none 0 0)) mb L F ws ks ms (kd.set p .free) := by
  have hp := kat_lt kd p (by rw [hk]; simp)
  have K : Keep [L.gt] w (w.setCell ⟨L.gt, p, none⟩ (.slice none 0 0)) := Keep.setCell w _ (by simp)
  have n : ∀ {y m : Nat}, L.r y = m → m ≠ 4 → y ∉ [L.gt] := fun h1 h2 => by simpa using ne_role h1 h.r4 h2
  have back : ∀ q d zs, kat (kd.set p .free) q = .small d zs → kat kd q = .small d zs := by
    intro q d zs e
    rw [kat_set _ _ _ _ hp] at e
    split at e
    · cases e
    · exact e
  exact { h with
    head := by rw [List.length_set]; exact K.blk h.head (n h.r0 (by omega))
    rowW := h.rowW.keep K (n h.r1 (by omega))
    rowK := h.rowK.keep K (n h.r2 (by omega))
    rowM := h.rowM.keep K (n h.r3 (by omega))
    rowT := by
      have := heap_setCell_same w L.gt p (slots L kd).toArray 71 (.slice none 0 0) h.rowT
      have e : (slots L kd).set p (.slice none 0 0) = slots L (kd.set p .free) := by
        apply List.ext_getElem?
        intro q
        rcases Nat.lt_or_ge q kd.length with hq | hq
        · rw [slots_get L (kd.set p .free) q (by simpa using hq), kat_set _ _ _ _ hp]
          by_cases e : q = p
          · subst e; simp [slots_length, hq, PK.slot]
          · rw [if_neg e, List.getElem?_set_ne (fun e' => e e'.symm), slots_get L kd q hq]
        · rw [List.getElem?_eq_none (by simpa [slots_length] using hq), List.getElem?_eq_none (by simpa [slots_length] using hq)]
      rw [← e]
      simpa using this
    page := fun q d zs e => by
      have e' := back q d zs e
      exact (h.page q d zs e').keep K (n (h.rp q d zs e') (by omega))
    lw := by rw [List.length_set]; exact h.lw
    lk := by rw [List.length_set]; exact h.lk
    lm := by rw [List.length_set]; exact h.lm
    rp := fun q d zs e => h.rp q d zs (back q d zs e)
    fp := fun q d zs e => h.fp q d zs (back q d zs e)
    lt := ltKeep h.lt K }
/-- A page is of a class from now on: one new block. -/
def RLay.more (L : RLay) (p q : Nat) : RLay := { L with T := fun i => if i = p then q else L.T i, r := fun k => if k = q then 5 + p else L.r k }
theorem RpAt.gain {p c q : Nat} {xs : List Bool} (h : RpAt w mb L F ws ks ms kd) (hp : p < kd.length) (hA : BRow w 4 q xs) (hn : q ∉ F) :
    RpAt (w.setCell ⟨L.gt, p, none⟩ (.slice (some ⟨q, 0, none⟩) xs.length xs.length)) mb (L.more p q) (q :: F) ws ks ms (kd.set p (.small c xs)) := by
  have K : Keep [L.gt] w (w.setCell ⟨L.gt, p, none⟩ (.slice (some ⟨q, 0, none⟩) xs.length xs.length)) := Keep.setCell w _ (by simp)
  have n : ∀ {y m : Nat}, L.r y = m → m ≠ 4 → y ∉ [L.gt] := fun h1 h2 => by simpa using ne_role h1 h.r4 h2
  obtain ⟨f0, f1, f2, f3, f4⟩ := h.f
  have nf : ∀ {x : Nat}, x ∈ F → x ≠ q := fun a e => hn (e ▸ a)
  have old : ∀ {x : Nat}, x ∈ F → (L.more p q).r x = L.r x := fun hx => if_neg (nf hx)
  have Tp : (L.more p q).T p = q := if_pos rfl
  have Tq : ∀ i, i ≠ p → (L.more p q).T i = L.T i := fun i e => if_neg e
  have mq : (L.more p q).r q = 5 + p := if_pos rfl
  have back : ∀ i d zs, kat (kd.set p (.small c xs)) i = .small d zs → i = p ∧ d = c ∧ zs = xs ∨ i ≠ p ∧ kat kd i = .small d zs := by
    intro i d zs e
    rw [kat_set _ _ _ _ hp] at e
    split at e
    · cases e; exact .inl ⟨by assumption, rfl, rfl⟩
    · exact .inr ⟨by assumption, e⟩
  have up : ∀ {x : Nat}, x ∈ F → x ∈ q :: F := fun hx => List.mem_cons_of_mem _ hx
  exact {
    head := by rw [List.length_set]; exact K.blk h.head (n h.r0 (by omega))
    rowW := h.rowW.keep K (n h.r1 (by omega))
    rowK := h.rowK.keep K (n h.r2 (by omega))
    rowM := h.rowM.keep K (n h.r3 (by omega))
    rowT := by
      have := heap_setCell_same w L.gt p (slots L kd).toArray 71 (.slice (some ⟨q, 0, none⟩) xs.length xs.length) h.rowT
      have e : (slots L kd).set p (.slice (some ⟨q, 0, none⟩) xs.length xs.length) = slots (L.more p q) (kd.set p (.small c xs)) := by
        apply List.ext_getElem?
        intro i
        rcases Nat.lt_or_ge i kd.length with hq | hq
        · rw [slots_get _ (kd.set p (.small c xs)) i (by simpa using hq), kat_set _ _ _ _ hp]
          by_cases e : i = p
          · subst e; rw [if_pos rfl, Tp]; simp [slots_length, hq, PK.slot]
          · rw [if_neg e, Tq i e, List.getElem?_set_ne (fun e' => e e'.symm), slots_get L kd i hq]
        · rw [List.getElem?_eq_none (by simpa [slots_length] using hq), List.getElem?_eq_none (by simpa [slots_length] using hq)]
      rw [← e]
      rw [show ((slots L kd).toArray.setIfInBounds p (.slice (some ⟨q, 0, none⟩) xs.length xs.length)) = ((slots L kd).set p (.slice (some ⟨q, 0, none⟩) xs.length xs.length)).toArray from by simp] at this
      exact this
    page := fun i d zs e => by
      rcases back i d zs e with ⟨rfl, rfl, rfl⟩ | ⟨hne, e'⟩
      · rw [Tp]
        exact hA.keep K (by simpa using fun e => nf f4 e.symm)
      · rw [Tq i hne]
        exact (h.page i d zs e').keep K (n (h.rp i d zs e') (by omega))
    lw := by rw [List.length_set]; exact h.lw
    lk := by rw [List.length_set]; exact h.lk
    lm := by rw [List.length_set]; exact h.lm
    r0 := (old f0).trans h.r0
    r1 := (old f1).trans h.r1
    r2 := (old f2).trans h.r2
    r3 := (old f3).trans h.r3
    r4 := (old f4).trans h.r4
    rp := fun i d zs e => by
      rcases back i d zs e with ⟨rfl, rfl, rfl⟩ | ⟨hne, e'⟩
      · rw [Tp]; exact mq
      · rw [Tq i hne]; exact (old (h.fp i d zs e')).trans (h.rp i d zs e')
    f := ⟨up f0, up f1, up f2, up f3, up f4⟩
    fp := fun i d zs e => by
      rcases back i d zs e with ⟨rfl, rfl, rfl⟩ | ⟨hne, e'⟩
      · rw [Tp]; simp
      · rw [Tq i hne]; exact up (h.fp i d zs e')
    lt := by
      intro k hk
      have hz : (w.setCell ⟨L.gt, p, none⟩ (.slice (some ⟨q, 0, none⟩) xs.length xs.length)).heap.size = w.heap.size := by simp [World.setCell]
      rw [hz]
      rcases List.mem_cons.1 hk with rfl | hk
      · exact hA.lt
      · exact h.lt k hk }
end

/-- The document's space whose rows are what its pages are. -/
def IsRef (w : World) (mb : Nat) (F : List Nat) (ws : List Int) (kd : List PK) : Prop := ∃ L, RpAt w mb L F ws (kindL kd) (bigL kd) kd
theorem IsRef.keep {S F : List Nat} {w w' : World} {mb : Nat} {ws : List Int} {kd : List PK} (h : IsRef w mb F ws kd) (K : Keep S w w') (hS : ∀ k, k ∈ F → k ∉ S) : IsRef w' mb F ws kd := by
  obtain ⟨L, h⟩ := h; exact ⟨L, h.keep K hS⟩
theorem IsRef.keep0 {F : List Nat} {w w' : World} {mb : Nat} {ws : List Int} {kd : List PK} (h : IsRef w mb F ws kd) (K : Keep [] w w') : IsRef w' mb F ws kd := h.keep K (by simp)
theorem IsRef.lt {F : List Nat} {w : World} {mb : Nat} {ws : List Int} {kd : List PK} (h : IsRef w mb F ws kd) : ∀ k, k ∈ F → k < w.heap.size := by
  obtain ⟨L, h⟩ := h; exact h.lt

end Go.Proofs.Ytfmfnmpibnddmaa
