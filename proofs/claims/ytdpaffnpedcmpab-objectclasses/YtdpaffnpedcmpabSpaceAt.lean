/-
  A space in memory: its block, its arena, its pages, the rows of its pages of a class and of its larger blocks; and what one write leaves of it.
-/
import Derived.Test.YtdpaffnpedcmpabArena
import Derived.Test.YtdpaffnpedcmpabPagesOps
import Derived.Test.YtdpaffnpedcmpabSpaceM
namespace Go.Proofs.Ytdpaffnpedcmpab
open Go.RowKit

/-- Where its blocks lie; r tells the blocks apart. -/
structure Lay where
  ab : Nat
  ag : Nat
  pb : Nat
  b : Nat
  g : Nat
  gs : Nat
  gl : Nat
  P : Nat → Nat × Nat × Nat
  r : Nat → Nat

def PK.ptr (q : Nat) : PK → Value
  | .small _ _ => .pointer (some ⟨q, 0, none⟩)
  | _ => .pointer none
def ptrs (L : Lay) (kd : List PK) : List Value := kd.mapIdx (fun p x => x.ptr (L.P p).1)
theorem ptrs_length (L : Lay) (kd : List PK) : (ptrs L kd).length = kd.length := by simp [ptrs]
theorem ptrs_get (L : Lay) (kd : List PK) (p : Nat) (h : p < kd.length) : (ptrs L kd)[p]? = some ((kat kd p).ptr (L.P p).1) := by
  unfold ptrs; rw [List.getElem?_mapIdx, kat_get kd p h]; rfl
theorem ne_of_role {r : Nat → Nat} {a b m n : Nat} (h1 : r a = m) (h2 : r b = n) (h : m ≠ n) : a ≠ b := fun e => h (by rw [← h1, ← h2, e])

/-- Block sb is a space laid out as L, all of whose blocks are of F: its words, its taken pages, what its pages are. -/
structure SpAt (w : World) (sb : Nat) (L : Lay) (F : List Nat) (ws : List Int) (ts : List Bool) (kd : List PK) : Prop where
  head : w.heap[sb]? = some (.cells #[.pointer (some ⟨L.ab, 0, none⟩), .pointer (some ⟨L.pb, 0, none⟩), .slice (some ⟨L.gs, 0, none⟩) kd.length kd.length, .slice (some ⟨L.gl, 0, none⟩) kd.length kd.length] 63 (0, 0))
  arena : IsArena w L.ab L.ag ws
  pages : IsPages w L.pb L.b L.g ts
  rowS : w.heap[L.gs]? = some (.cells (ptrs L kd).toArray 71 (0, 0))
  rowL : Row w 3 L.gl (bigL kd)
  page : ∀ p c xs, kat kd p = .small c xs → IsPage w (L.P p).1 (L.P p).2.1 (L.P p).2.2 (wordsOf c) xs
  len : ws.length = 64 * kd.length
  r0 : L.r sb = 0
  r1 : L.r L.ab = 1
  r2 : L.r L.ag = 2
  r3 : L.r L.pb = 3
  r4 : L.r L.b = 4
  r5 : L.r L.g = 5
  r6 : L.r L.gs = 6
  r7 : L.r L.gl = 7
  rp : ∀ p c xs, kat kd p = .small c xs → L.r (L.P p).1 = 8 + 3 * p ∧ L.r (L.P p).2.1 = 9 + 3 * p ∧ L.r (L.P p).2.2 = 10 + 3 * p
  f : sb ∈ F ∧ L.ab ∈ F ∧ L.ag ∈ F ∧ L.pb ∈ F ∧ L.b ∈ F ∧ L.g ∈ F ∧ L.gs ∈ F ∧ L.gl ∈ F
  fp : ∀ p c xs, kat kd p = .small c xs → (L.P p).1 ∈ F ∧ (L.P p).2.1 ∈ F ∧ (L.P p).2.2 ∈ F
  lt : ∀ k, k ∈ F → k < w.heap.size

theorem lt_keep {S F : List Nat} {w w' : World} (h : ∀ k, k ∈ F → k < w.heap.size) (K : Keep S w w') : ∀ k, k ∈ F → k < w'.heap.size := fun k hk => Nat.lt_of_lt_of_le (h k hk) K.size

theorem SpAt.keep {S F : List Nat} {w w' : World} {sb : Nat} {L : Lay} {ws : List Int} {ts : List Bool} {kd : List PK} (h : SpAt w sb L F ws ts kd) (K : Keep S w w') (hS : ∀ k, k ∈ F → k ∉ S) : SpAt w' sb L F ws ts kd := by
  obtain ⟨f0, f1, f2, f3, f4, f5, f6, f7⟩ := h.f
  exact { h with
    head := K.blk h.head (hS _ f0), arena := h.arena.keep K (hS _ f1) (hS _ f2), pages := h.pages.keep K (hS _ f3) (hS _ f4) (hS _ f5),
    rowS := K.blk h.rowS (hS _ f6), rowL := h.rowL.keep K (hS _ f7),
    page := fun p c xs e => (h.page p c xs e).keep K (hS _ (h.fp p c xs e).1) (hS _ (h.fp p c xs e).2.1) (hS _ (h.fp p c xs e).2.2)
    lt := lt_keep h.lt K }
theorem SpAt.keep0 {F : List Nat} {w w' : World} {sb : Nat} {L : Lay} {ws : List Int} {ts : List Bool} {kd : List PK} (h : SpAt w sb L F ws ts kd) (K : Keep [] w w') : SpAt w' sb L F ws ts kd := h.keep K (by simp)

/-- The cells that are read. -/
theorem SpAt.c0 {F : List Nat} {w : World} {sb : Nat} {L : Lay} {ws : List Int} {ts : List Bool} {kd : List PK} (h : SpAt w sb L F ws ts kd) : w.cell? ⟨sb, 0, none⟩ = some (.pointer (some ⟨L.ab, 0, none⟩)) := by simp [World.cell?, h.head]
theorem SpAt.c1 {F : List Nat} {w : World} {sb : Nat} {L : Lay} {ws : List Int} {ts : List Bool} {kd : List PK} (h : SpAt w sb L F ws ts kd) : w.cell? ⟨sb, 1, none⟩ = some (.pointer (some ⟨L.pb, 0, none⟩)) := by simp [World.cell?, h.head]
theorem SpAt.c2 {F : List Nat} {w : World} {sb : Nat} {L : Lay} {ws : List Int} {ts : List Bool} {kd : List PK} (h : SpAt w sb L F ws ts kd) : w.cell? ⟨sb, 2, none⟩ = some (.slice (some ⟨L.gs, 0, none⟩) kd.length kd.length) := by simp [World.cell?, h.head]
theorem SpAt.c3 {F : List Nat} {w : World} {sb : Nat} {L : Lay} {ws : List Int} {ts : List Bool} {kd : List PK} (h : SpAt w sb L F ws ts kd) : w.cell? ⟨sb, 3, none⟩ = some (.slice (some ⟨L.gl, 0, none⟩) kd.length kd.length) := by simp [World.cell?, h.head]
theorem SpAt.cs {F : List Nat} {w : World} {sb : Nat} {L : Lay} {ws : List Int} {ts : List Bool} {kd : List PK} (h : SpAt w sb L F ws ts kd) {p : Nat} (hp : p < kd.length) : w.cell? ⟨L.gs, p, none⟩ = some ((kat kd p).ptr (L.P p).1) := by
  have := ptrs_get L kd p hp
  simp [World.cell?, h.rowS, this]
theorem SpAt.fs {F : List Nat} {w : World} {sb : Nat} {L : Lay} {ws : List Int} {ts : List Bool} {kd : List PK} (h : SpAt w sb L F ws ts kd) (p : Nat) : w.frozen? ⟨L.gs, p, none⟩ = false := by simp [World.frozen?, h.rowS]
theorem SpAt.cl {F : List Nat} {w : World} {sb : Nat} {L : Lay} {ws : List Int} {ts : List Bool} {kd : List PK} (h : SpAt w sb L F ws ts kd) {p : Nat} (hp : p < kd.length) : w.cell? ⟨L.gl, p, none⟩ = some (.int .i64 (kat kd p).big) := by
  have := h.rowL.cell (i := p) (by rw [bigL_length]; exact hp)
  rw [bigL_get] at this; exact this
theorem SpAt.fl {F : List Nat} {w : World} {sb : Nat} {L : Lay} {ws : List Int} {ts : List Bool} {kd : List PK} (h : SpAt w sb L F ws ts kd) (p : Nat) : w.frozen? ⟨L.gl, p, none⟩ = false := h.rowL.free p

/-- The arena is written. -/
theorem SpAt.words {F : List Nat} {w w' : World} {sb : Nat} {L : Lay} {ws ws' : List Int} {ts : List Bool} {kd : List PK} (h : SpAt w sb L F ws ts kd) (K : Keep [L.ag] w w') (hA : IsArena w' L.ab L.ag ws') (hl : ws'.length = ws.length) : SpAt w' sb L F ws' ts kd := by
  have n : ∀ {x m : Nat}, L.r x = m → m ≠ 2 → x ∉ [L.ag] := fun h1 h2 => by simpa using ne_of_role h1 h.r2 h2
  exact { h with
    head := K.blk h.head (n h.r0 (by omega)), arena := hA, pages := h.pages.keep K (n h.r3 (by omega)) (n h.r4 (by omega)) (n h.r5 (by omega)),
    rowS := K.blk h.rowS (n h.r6 (by omega)), rowL := h.rowL.keep K (n h.r7 (by omega)),
    page := fun p c xs e => (h.page p c xs e).keep K (n (h.rp p c xs e).1 (by omega)) (n (h.rp p c xs e).2.1 (by omega)) (n (h.rp p c xs e).2.2 (by omega))
    len := by rw [hl]; exact h.len
    lt := lt_keep h.lt K }
/-- The pages are. -/
theorem SpAt.turn {F : List Nat} {w w' : World} {sb : Nat} {L : Lay} {ws : List Int} {ts ts' : List Bool} {kd : List PK} (h : SpAt w sb L F ws ts kd) (K : Keep [L.g] w w') (hA : IsPages w' L.pb L.b L.g ts') : SpAt w' sb L F ws ts' kd := by
  have n : ∀ {x m : Nat}, L.r x = m → m ≠ 5 → x ∉ [L.g] := fun h1 h2 => by simpa using ne_of_role h1 h.r5 h2
  exact { h with
    head := K.blk h.head (n h.r0 (by omega)), arena := h.arena.keep K (n h.r1 (by omega)) (n h.r2 (by omega)), pages := hA,
    rowS := K.blk h.rowS (n h.r6 (by omega)), rowL := h.rowL.keep K (n h.r7 (by omega)),
    page := fun p c xs e => (h.page p c xs e).keep K (n (h.rp p c xs e).1 (by omega)) (n (h.rp p c xs e).2.1 (by omega)) (n (h.rp p c xs e).2.2 (by omega))
    lt := lt_keep h.lt K }
theorem ptrs_same (L : Lay) (kd kd' : List PK) (hl : kd'.length = kd.length) (h : ∀ p, p < kd.length → (kat kd' p).ptr (L.P p).1 = (kat kd p).ptr (L.P p).1) : ptrs L kd' = ptrs L kd := by
  apply List.ext_getElem?
  intro p
  rcases Nat.lt_or_ge p kd.length with hp | hp
  · rw [ptrs_get L kd p hp, ptrs_get L kd' p (by omega), h p hp]
  · rw [List.getElem?_eq_none (by rw [ptrs_length]; omega), List.getElem?_eq_none (by rw [ptrs_length]; omega)]
/-- The blocks of a page of a class are. -/
theorem SpAt.inner {F : List Nat} {w w' : World} {sb : Nat} {L : Lay} {ws : List Int} {ts : List Bool} {kd : List PK} {p c : Nat} {xs ys : List Bool} (h : SpAt w sb L F ws ts kd) (hk : kat kd p = .small c xs) (K : Keep [(L.P p).2.2] w w')
    (hA : IsPage w' (L.P p).1 (L.P p).2.1 (L.P p).2.2 (wordsOf c) ys) : SpAt w' sb L F ws ts (kd.set p (.small c ys)) := by
  have hp := kat_lt kd p (by rw [hk]; simp)
  have rp := (h.rp p c xs hk).2.2
  have n : ∀ {x m : Nat}, L.r x = m → m ≠ 10 + 3 * p → x ∉ [(L.P p).2.2] := fun h1 h2 => by simpa using ne_of_role h1 rp h2
  have back : ∀ q d zs, kat (kd.set p (.small c ys)) q = .small d zs → q = p ∧ d = c ∧ zs = ys ∨ q ≠ p ∧ kat kd q = .small d zs := by
    intro q d zs e
    rw [kat_set _ _ _ _ hp] at e
    split at e
    · cases e; exact .inl ⟨by assumption, rfl, rfl⟩
    · exact .inr ⟨by assumption, e⟩
  exact { h with
    head := by rw [List.length_set]; exact K.blk h.head (n h.r0 (by omega))
    arena := h.arena.keep K (n h.r1 (by omega)) (n h.r2 (by omega))
    pages := h.pages.keep K (n h.r3 (by omega)) (n h.r4 (by omega)) (n h.r5 (by omega))
    rowS := by
      rw [ptrs_same L kd (kd.set p (.small c ys)) (by simp) (fun q hq => by
        rw [kat_set _ _ _ _ hp]
        split
        · rename_i e; subst e; rw [hk]; rfl
        · rfl)]
      exact K.blk h.rowS (n h.r6 (by omega))
    rowL := by
      have e : bigL (kd.set p (.small c ys)) = bigL kd := by
        refine eq_of_getD (by simp [bigL]) (fun t => ?_)
        rw [bigL_get, bigL_get, kat_set _ _ _ _ hp]
        split
        · rename_i e; subst e; rw [hk]; rfl
        · rfl
      rw [e]
      exact h.rowL.keep K (n h.r7 (by omega))
    page := fun q d zs e => by
      rcases back q d zs e with ⟨rfl, rfl, rfl⟩ | ⟨hne, e'⟩
      · exact hA
      · have := h.rp q d zs e'
        exact (h.page q d zs e').keep K (n this.1 (by omega)) (n this.2.1 (by omega)) (n this.2.2 (by omega))
    len := by rw [List.length_set]; exact h.len
    rp := fun q d zs e => by
      rcases back q d zs e with ⟨rfl, rfl, rfl⟩ | ⟨_, e'⟩
      · exact h.rp q d xs hk
      · exact h.rp q d zs e'
    fp := fun q d zs e => by
      rcases back q d zs e with ⟨rfl, rfl, rfl⟩ | ⟨_, e'⟩
      · exact h.fp q d xs hk
      · exact h.fp q d zs e'
    lt := lt_keep h.lt K }
/-- A page is of no class any more. -/
theorem SpAt.drop {F : List Nat} {w : World} {sb : Nat} {L : Lay} {ws : List Int} {ts : List Bool} {kd : List PK} {p c : Nat} {xs : List Bool} (h : SpAt w sb L F ws ts kd) (hk : kat kd p = .small c xs) :
    SpAt (w.setCell ⟨L.gs, p, none⟩ (.pointer none)) sb L F ws ts (kd.set p .free) := by
  have hp := kat_lt kd p (by rw [hk]; simp)
  have K : Keep [L.gs] w (w.setCell ⟨L.gs, p, none⟩ (.pointer none)) := Keep.setCell w _ (by simp)
  have n : ∀ {x m : Nat}, L.r x = m → m ≠ 6 → x ∉ [L.gs] := fun h1 h2 => by simpa using ne_of_role h1 h.r6 h2
  have back : ∀ q d zs, kat (kd.set p .free) q = .small d zs → kat kd q = .small d zs := by
    intro q d zs e
    rw [kat_set _ _ _ _ hp] at e
    split at e
    · cases e
    · exact e
  exact { h with
    head := by rw [List.length_set]; exact K.blk h.head (n h.r0 (by omega))
    arena := h.arena.keep K (n h.r1 (by omega)) (n h.r2 (by omega))
    pages := h.pages.keep K (n h.r3 (by omega)) (n h.r4 (by omega)) (n h.r5 (by omega))
    rowS := by
      have := heap_setCell_same w L.gs p (ptrs L kd).toArray 71 (.pointer none) h.rowS
      have e : (ptrs L kd).set p (.pointer none) = ptrs L (kd.set p .free) := by
        apply List.ext_getElem?
        intro q
        rcases Nat.lt_or_ge q kd.length with hq | hq
        · rw [ptrs_get L (kd.set p .free) q (by simpa using hq), kat_set _ _ _ _ hp]
          by_cases e : q = p
          · subst e; simp [ptrs_length, hq, PK.ptr]
          · rw [if_neg e, List.getElem?_set_ne (fun e' => e e'.symm), ptrs_get L kd q hq]
        · rw [List.getElem?_eq_none (by simpa [ptrs_length] using hq), List.getElem?_eq_none (by simpa [ptrs_length] using hq)]
      rw [← e]
      simpa using this
    rowL := by
      have e : bigL (kd.set p .free) = bigL kd := by
        refine eq_of_getD (by simp [bigL]) (fun t => ?_)
        rw [bigL_get, bigL_get, kat_set _ _ _ _ hp]
        split
        · rename_i e; subst e; rw [hk]; rfl
        · rfl
      rw [e]
      exact h.rowL.keep K (n h.r7 (by omega))
    page := fun q d zs e => by
      have e' := back q d zs e
      have := h.rp q d zs e'
      exact (h.page q d zs e').keep K (n this.1 (by omega)) (n this.2.1 (by omega)) (n this.2.2 (by omega))
    len := by rw [List.length_set]; exact h.len
    rp := fun q d zs e => h.rp q d zs (back q d zs e)
    fp := fun q d zs e => h.fp q d zs (back q d zs e)
    lt := lt_keep h.lt K }
/-- The row of larger blocks is written; what the pages of a class are stays. -/
theorem SpAt.larger {F : List Nat} {w : World} {sb : Nat} {L : Lay} {ws : List Int} {ts : List Bool} {kd kd' : List PK} {p : Nat} {x : Int} (h : SpAt w sb L F ws ts kd) (hl : kd'.length = kd.length) (hb : bigL kd' = (bigL kd).set p x)
    (hs : ∀ q, kat kd' q = kat kd q ∨ (∀ c xs, kat kd' q ≠ .small c xs) ∧ (∀ c xs, kat kd q ≠ .small c xs)) : SpAt (w.setCell ⟨L.gl, p, none⟩ (.int .i64 x)) sb L F ws ts kd' := by
  have K : Keep [L.gl] w (w.setCell ⟨L.gl, p, none⟩ (.int .i64 x)) := Keep.setCell w _ (by simp)
  have n : ∀ {x m : Nat}, L.r x = m → m ≠ 7 → x ∉ [L.gl] := fun h1 h2 => by simpa using ne_of_role h1 h.r7 h2
  have back : ∀ q d zs, kat kd' q = .small d zs → kat kd q = .small d zs := by
    intro q d zs e
    rcases hs q with e' | ⟨e', _⟩
    · rw [← e']; exact e
    · exact absurd e (e' d zs)
  exact { h with
    head := by rw [hl]; exact K.blk h.head (n h.r0 (by omega))
    arena := h.arena.keep K (n h.r1 (by omega)) (n h.r2 (by omega))
    pages := h.pages.keep K (n h.r3 (by omega)) (n h.r4 (by omega)) (n h.r5 (by omega))
    rowS := by
      rw [ptrs_same L kd kd' hl (fun q _ => by
        rcases hs q with e | ⟨e1, e2⟩
        · rw [e]
        · have t : ∀ y : PK, (∀ c xs, y ≠ .small c xs) → y.ptr (L.P q).1 = .pointer none := by
            intro y hy
            cases y with
            | small c xs => exact absurd rfl (hy c xs)
            | _ => rfl
          rw [t _ e1, t _ e2])]
      exact K.blk h.rowS (n h.r6 (by omega))
    rowL := by rw [hb]; exact h.rowL.put p x
    page := fun q d zs e => by
      have e' := back q d zs e
      have := h.rp q d zs e'
      exact (h.page q d zs e').keep K (n this.1 (by omega)) (n this.2.1 (by omega)) (n this.2.2 (by omega))
    len := by rw [hl]; exact h.len
    rp := fun q d zs e => h.rp q d zs (back q d zs e)
    fp := fun q d zs e => h.fp q d zs (back q d zs e)
    lt := lt_keep h.lt K }
/-- A page is of a class from now on: three new blocks. -/
def Lay.more (L : Lay) (p q1 q2 q3 : Nat) : Lay :=
  { L with P := fun i => if i = p then (q1, q2, q3) else L.P i, r := fun k => if k = q1 then 8 + 3 * p else if k = q2 then 9 + 3 * p else if k = q3 then 10 + 3 * p else L.r k }
theorem SpAt.gain {F : List Nat} {w : World} {sb : Nat} {L : Lay} {ws : List Int} {ts : List Bool} {kd : List PK} {p c q1 q2 q3 : Nat} {xs : List Bool} (h : SpAt w sb L F ws ts kd) (hp : p < kd.length) (hk : kat kd p = .free)
    (hA : IsPage w q1 q2 q3 (wordsOf c) xs) (hn : q1 ∉ F ∧ q2 ∉ F ∧ q3 ∉ F) :
    SpAt (w.setCell ⟨L.gs, p, none⟩ (.pointer (some ⟨q1, 0, none⟩))) sb (L.more p q1 q2 q3) (q1 :: q2 :: q3 :: F) ws ts (kd.set p (.small c xs)) := by
  have K : Keep [L.gs] w (w.setCell ⟨L.gs, p, none⟩ (.pointer (some ⟨q1, 0, none⟩))) := Keep.setCell w _ (by simp)
  have n : ∀ {x m : Nat}, L.r x = m → m ≠ 6 → x ∉ [L.gs] := fun h1 h2 => by simpa using ne_of_role h1 h.r6 h2
  obtain ⟨f0, f1, f2, f3, f4, f5, f6, f7⟩ := h.f
  obtain ⟨n1, n2, n3⟩ := hn
  have nf : ∀ {x y : Nat}, x ∈ F → y ∉ F → x ≠ y := fun a b e => b (e ▸ a)
  have old : ∀ {x : Nat}, x ∈ F → (L.more p q1 q2 q3).r x = L.r x := by
    intro x hx
    show (if x = q1 then _ else if x = q2 then _ else if x = q3 then _ else L.r x) = _
    rw [if_neg (nf hx n1), if_neg (nf hx n2), if_neg (nf hx n3)]
  have m1 : (L.more p q1 q2 q3).r q1 = 8 + 3 * p := by show (if q1 = q1 then _ else _) = _; rw [if_pos rfl]
  have m2 : (L.more p q1 q2 q3).r q2 = 9 + 3 * p := by show (if q2 = q1 then _ else if q2 = q2 then _ else _) = _; rw [if_neg (fun e => hA.ne1 e.symm), if_pos rfl]
  have m3 : (L.more p q1 q2 q3).r q3 = 10 + 3 * p := by
    show (if q3 = q1 then _ else if q3 = q2 then _ else if q3 = q3 then _ else _) = _
    rw [if_neg (fun e => hA.ne2 e.symm), if_neg (fun e => hA.bits.ne e.symm), if_pos rfl]
  have Pp : (L.more p q1 q2 q3).P p = (q1, q2, q3) := if_pos rfl
  have Pq : ∀ q, q ≠ p → (L.more p q1 q2 q3).P q = L.P q := fun q e => if_neg e
  have back : ∀ q d zs, kat (kd.set p (.small c xs)) q = .small d zs → q = p ∧ d = c ∧ zs = xs ∨ q ≠ p ∧ kat kd q = .small d zs := by
    intro q d zs e
    rw [kat_set _ _ _ _ hp] at e
    split at e
    · cases e; exact .inl ⟨by assumption, rfl, rfl⟩
    · exact .inr ⟨by assumption, e⟩
  have up : ∀ {x : Nat}, x ∈ F → x ∈ q1 :: q2 :: q3 :: F := fun hx => List.mem_cons_of_mem _ (List.mem_cons_of_mem _ (List.mem_cons_of_mem _ hx))
  have hlt := hA.lt
  exact {
    head := by rw [List.length_set]; exact K.blk h.head (n h.r0 (by omega))
    arena := h.arena.keep K (n h.r1 (by omega)) (n h.r2 (by omega))
    pages := h.pages.keep K (n h.r3 (by omega)) (n h.r4 (by omega)) (n h.r5 (by omega))
    rowS := by
      have := heap_setCell_same w L.gs p (ptrs L kd).toArray 71 (.pointer (some ⟨q1, 0, none⟩)) h.rowS
      have e : (ptrs L kd).set p (.pointer (some ⟨q1, 0, none⟩)) = ptrs (L.more p q1 q2 q3) (kd.set p (.small c xs)) := by
        apply List.ext_getElem?
        intro q
        rcases Nat.lt_or_ge q kd.length with hq | hq
        · rw [ptrs_get _ (kd.set p (.small c xs)) q (by simpa using hq), kat_set _ _ _ _ hp]
          by_cases e : q = p
          · subst e; rw [if_pos rfl, Pp]; simp [ptrs_length, hq, PK.ptr]
          · rw [if_neg e, Pq q e, List.getElem?_set_ne (fun e' => e e'.symm), ptrs_get L kd q hq]
        · rw [List.getElem?_eq_none (by simpa [ptrs_length] using hq), List.getElem?_eq_none (by simpa [ptrs_length] using hq)]
      rw [← e]
      rw [show ((ptrs L kd).toArray.setIfInBounds p (.pointer (some ⟨q1, 0, none⟩))) = ((ptrs L kd).set p (.pointer (some ⟨q1, 0, none⟩))).toArray from by simp] at this
      exact this
    rowL := by
      have e : bigL (kd.set p (.small c xs)) = bigL kd := by
        refine eq_of_getD (by simp [bigL]) (fun t => ?_)
        rw [bigL_get, bigL_get, kat_set _ _ _ _ hp]
        split
        · rename_i e; subst e; rw [hk]; rfl
        · rfl
      rw [e]
      exact h.rowL.keep K (n h.r7 (by omega))
    page := fun q d zs e => by
      rcases back q d zs e with ⟨rfl, rfl, rfl⟩ | ⟨hne, e'⟩
      · rw [Pp]
        exact hA.keep K (by simpa using fun e => nf f6 n1 e.symm) (by simpa using fun e => nf f6 n2 e.symm) (by simpa using fun e => nf f6 n3 e.symm)
      · rw [Pq q hne]
        have := h.rp q d zs e'
        exact (h.page q d zs e').keep K (n this.1 (by omega)) (n this.2.1 (by omega)) (n this.2.2 (by omega))
    len := by rw [List.length_set]; exact h.len
    r0 := (old f0).trans h.r0
    r1 := (old f1).trans h.r1
    r2 := (old f2).trans h.r2
    r3 := (old f3).trans h.r3
    r4 := (old f4).trans h.r4
    r5 := (old f5).trans h.r5
    r6 := (old f6).trans h.r6
    r7 := (old f7).trans h.r7
    rp := fun q d zs e => by
      rcases back q d zs e with ⟨rfl, rfl, rfl⟩ | ⟨hne, e'⟩
      · rw [Pp]; exact ⟨m1, m2, m3⟩
      · rw [Pq q hne]
        have fq := h.fp q d zs e'
        have := h.rp q d zs e'
        exact ⟨(old fq.1).trans this.1, (old fq.2.1).trans this.2.1, (old fq.2.2).trans this.2.2⟩
    f := ⟨up f0, up f1, up f2, up f3, up f4, up f5, up f6, up f7⟩
    fp := fun q d zs e => by
      rcases back q d zs e with ⟨rfl, rfl, rfl⟩ | ⟨hne, e'⟩
      · rw [Pp]; simp
      · rw [Pq q hne]
        have fq := h.fp q d zs e'
        exact ⟨up fq.1, up fq.2.1, up fq.2.2⟩
    lt := by
      intro k hk
      have hz : (w.setCell ⟨L.gs, p, none⟩ (.pointer (some ⟨q1, 0, none⟩))).heap.size = w.heap.size := by simp [World.setCell]
      rw [hz]
      rcases List.mem_cons.1 hk with rfl | hk
      · exact hlt.1
      · rcases List.mem_cons.1 hk with rfl | hk
        · exact hlt.2.1
        · rcases List.mem_cons.1 hk with rfl | hk
          · exact hlt.2.2
          · exact h.lt k hk }

/-- A space whose pages are what they are taken for. -/
def IsSpace (w : World) (sb : Nat) (F : List Nat) (ws : List Int) (kd : List PK) : Prop := ∃ L, SpAt w sb L F ws (takenL kd) kd
theorem IsSpace.keep {S F : List Nat} {w w' : World} {sb : Nat} {ws : List Int} {kd : List PK} (h : IsSpace w sb F ws kd) (K : Keep S w w') (hS : ∀ k, k ∈ F → k ∉ S) : IsSpace w' sb F ws kd := by
  obtain ⟨L, h⟩ := h; exact ⟨L, h.keep K hS⟩
theorem IsSpace.keep0 {F : List Nat} {w w' : World} {sb : Nat} {ws : List Int} {kd : List PK} (h : IsSpace w sb F ws kd) (K : Keep [] w w') : IsSpace w' sb F ws kd := h.keep K (by simp)
theorem IsSpace.lt {F : List Nat} {w : World} {sb : Nat} {ws : List Int} {kd : List PK} (h : IsSpace w sb F ws kd) : ∀ k, k ∈ F → k < w.heap.size := by
  obtain ⟨L, h⟩ := h; exact h.lt
theorem IsSpace.len {F : List Nat} {w : World} {sb : Nat} {ws : List Int} {kd : List PK} (h : IsSpace w sb F ws kd) : ws.length = 64 * kd.length := by
  obtain ⟨L, h⟩ := h; exact h.len

end Go.Proofs.Ytdpaffnpedcmpab
