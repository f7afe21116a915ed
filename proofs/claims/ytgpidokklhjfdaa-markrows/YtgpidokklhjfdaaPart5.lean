/-
  Contracts of what the statement calls, one text behind the other (ObjRoom, EachM, Twin, PRow, Mid, Mids, Opens, OpenAsk, ListC, Sep2).
-/
import Derived.Test.YtgpidokklhjfdaaPart4
import Derived.Test.YtgpidokklhjfdaaPart2
import Derived.Deep.AppendLies
import Derived.Test.YtgpidokklhjfdaaPart3
import Derived.ArgAppend
import Derived.Deep.OwnRows
import Derived.Test.YtgpidokklhjfdaaPart1
import Derived.ProofKit
import Derived.OpenShut
import Derived.Deep.Slices

/-
  Room: where all pages from one on are free a block is had, and those behind it stay free. Plain facts.
-/
namespace Go.Proofs.Ytgpidokklhjfdaa
open Go.RowKit

def FreeFrom (kd : List PK) (s : Nat) : Prop := ∀ t, s ≤ t → kat kd t = .free
theorem FreeFrom.fresh (n : Nat) (h : 1 ≤ n) : FreeFrom (freshK n) 1 := fun t ht => by rw [freshK_at n t h, if_neg (by omega)]
theorem FreeFrom.mono {kd : List PK} {s t : Nat} (h : FreeFrom kd s) (hs : s ≤ t) : FreeFrom kd t := fun u hu => h u (by omega)
theorem run_low {kd : List PK} {s k : Nat} {p : Int} (hk : 1 ≤ k) (hf : FreeFrom kd s) (hs : s + k ≤ kd.length) (h : runR (takenL kd) 0 k = p) : ∃ q : Nat, p = q ∧ q ≤ s := by
  have hc : Clear (takenL kd) s k := ⟨by rw [takenL_length]; omega, fun t a b => by rw [takenL_get, hf t a]; rfl⟩
  rcases runR_spec (takenL kd) k hk _ 0 rfl with ⟨_, h1⟩ | ⟨j, h1, h2⟩
  · exact absurd hc (h1 s (by omega))
  · refine ⟨j, by rw [← h, h1], ?_⟩
    rcases Nat.lt_or_ge s j with h3 | h3
    · exact absurd hc (h2.2.2 s (by omega) h3)
    · exact h3
theorem alloc_from {kd : List PK} {n : Int} {s K : Nat} (hn : 1 ≤ n ∧ n ≤ 1024) (hp : pagesI n ≤ K) (hK : 1 ≤ K) (hs : s + K ≤ kd.length) (hf : FreeFrom kd s) : ∃ a kd', AllocR kd n (some (a, kd')) ∧ FreeFrom kd' (s + K) := by
  obtain ⟨r, hr⟩ := alloc_ex kd n (by have := room_ge n hn.1 hn.2; omega)
  cases r with
  | none =>
    exfalso
    cases hr with
    | full c e1 e2 e3 => obtain ⟨q, e, _⟩ := run_low (by omega) hf (by omega) e3; omega
    | over k e1 e2 e3 e4 => obtain ⟨q, e, _⟩ := run_low e3 hf (by omega) e4; omega
  | some o =>
    obtain ⟨a, kd'⟩ := o
    refine ⟨a, kd', hr, fun t ht => ?_⟩
    cases hr with
    | old c p i xs e1 e2 e3 e4 e5 =>
      rw [kat_set_other _ _ _ _ (fun e => by subst e; rw [hf t (by omega)] at e3; cases e3)]
      exact hf t (by omega)
    | new c p e1 e2 e3 =>
      obtain ⟨q, e, h⟩ := run_low (by omega) hf (by omega) e3
      rw [kat_set_other _ _ _ _ (by omega)]
      exact hf t (by omega)
    | large k p e1 e2 e3 e4 =>
      obtain ⟨q, e, h⟩ := run_low e3 hf (by omega) e4
      rw [putParts_at _ _ _ _ (by omega), if_neg (by omega)]
      exact hf t (by omega)
/-- An object is made. -/
theorem make_from {kd : List PK} {ds : List (Int × List Int)} {k c l : Int} {s K : Nat} (ws : List Int) (hw : WF kd) (hm : mayH k c l false = true) (hF : FitsT ds k c l 0) (hp : pagesI (l + 1) ≤ K) (hK : 1 ≤ K) (hs : s + K ≤ kd.length) (hf : FreeFrom kd s) :
    ∃ (a b : Nat) (kd' : List PK), MakeT kd ws ds k c l false a 0 ((fill0 ws a b).set a (putH k c l false)) kd' ∧ AllocR kd (l + 1) (some (a, kd')) ∧ blockI (l + 1) = b ∧ FreeFrom kd' (s + K) := by
  have hb := mayH_bd hm
  obtain ⟨a, kd', h1, h2⟩ := alloc_from (kd := kd) (n := l + 1) (s := s) (K := K) (by omega) hp hK hs hf
  obtain ⟨b, hb', _⟩ := h1.spec hw
  exact ⟨a, b, kd', .yes a b kd' hm rfl hF h1 hb', h1, hb', h2⟩
theorem may_data (l : Int) (h1 : 0 ≤ l) (h2 : l ≤ 1023) : mayH 3 0 l false = true := by
  rw [mayH_23 _ _ _ (by omega), inB_yes (by omega) (by omega), inB_yes h1 h2]; rfl
theorem may_refs (l : Int) (h1 : 0 ≤ l) (h2 : l ≤ 1023) : mayH 2 0 l false = true := by
  rw [mayH_23 _ _ _ (by omega), inB_yes (by omega) (by omega), inB_yes h1 h2]; rfl
/-- What there is, behind an object that was made. -/
theorem MakeT.at {kd kd' : List PK} {ws : List Int} {k c l : Int} {a b : Nat} (hw : WF kd) (hl : ws.length = 64 * kd.length) (hm : mayH k c l false = true) (hr : AllocR kd (l + 1) (some (a, kd'))) (hb : blockI (l + 1) = b) : At kd' ((fill0 ws a b).set a (putH k c l false)) a a b k c l false := by
  obtain ⟨b', hb', h1, h2, h3, h4, h5, h6, h7⟩ := hr.spec hw
  obtain rfl : b = b' := by rw [hb] at hb'; omega
  refine ⟨rfl, by rw [h7, if_pos (by omega)], ?_⟩
  rw [set_get_same _ _ _ (by rw [fill0_length _ _ _ (by omega)]; omega)]
  exact ⟨hm, rfl⟩
/-- What there was is as it was. -/
theorem At.made {kd kd' : List PK} {ws : List Int} {n x : Int} {a b p m : Nat} {k c l : Int} {f : Bool} (h : At kd ws p p m k c l f) (hw : WF kd) (hl : ws.length = 64 * kd.length) (hr : AllocR kd n (some (a, kd'))) (hb : blockI n = b) : At kd' ((fill0 ws a b).set a x) p p m k c l f ∧ (p + m ≤ a ∨ a + b ≤ p) := by
  obtain ⟨b', hb', h1, h2, h3, h4, h5, h6, h7⟩ := hr.spec hw
  obtain rfl : b = b' := by rw [hb] at hb'; omega
  obtain ⟨_, h8, h9⟩ := h
  obtain ⟨g1, g2, g3, g4, g5, g6⟩ := hw.found h8
  have hd : p + m ≤ a ∨ a + b ≤ p := by
    rcases Nat.lt_or_ge a (p + m) with e1 | e1
    · rcases Nat.lt_or_ge p (a + b) with e2 | e2
      · have := g6 (max a p) (by omega) (by omega)
        rw [h6 (max a p) (by omega) (by omega)] at this
        cases this
      · exact .inr e2
    · exact .inl e1
  refine ⟨⟨rfl, by rw [h7, if_neg (by omega)]; exact h8, ?_⟩, hd⟩
  rw [set_get_other _ _ _ _ (by omega), fill0_get _ _ _ _ (by omega), if_neg (by omega)]
  exact h9

end Go.Proofs.Ytgpidokklhjfdaa

/-
  All blocks of a space, by address: each once, rising; one more where one is made, one less where one is freed. Plain facts.
-/
namespace Go.Proofs.Ytgpidokklhjfdaa
open Go.RowKit

theorem sz_pos (c : Nat) : 0 < sz c := Nat.pos_of_ne_zero (by unfold sz; exact Nat.pos_iff_ne_zero.1 (Nat.two_pow_pos _))
theorem startsTo_rises (p c : Nat) (xs : List Bool) (j : Nat) : (startsTo p c xs j).Pairwise (· < ·) := by
  unfold startsTo
  rw [List.pairwise_map]
  refine List.Pairwise.filter _ ?_
  refine (List.pairwise_lt_range).imp (fun {a b} h => ?_)
  have := Nat.mul_lt_mul_of_pos_right h (sz_pos c)
  omega
theorem startsK_rises (p : Nat) (x : PK) : (startsK p x).Pairwise (· < ·) := by
  unfold startsK
  split
  · exact startsTo_rises _ _ _ _
  · simp
  · simp
theorem WF.each_rises {kd : List PK} (h : WF kd) (m : Nat) : (eachTo kd m).Pairwise (· < ·) := by
  induction m with
  | zero => simp [eachTo]
  | succ m ih =>
    rw [eachTo_succ, List.pairwise_append]
    refine ⟨ih, startsK_rises _ _, fun x hx y hy => ?_⟩
    obtain ⟨a, n, rfl, h1, _⟩ := h.each_in m x hx
    obtain ⟨b, n', rfl, h2, _⟩ := h.starts_in m y hy
    omega
theorem eachTo_of {kd : List PK} {m p : Nat} {x : Int} (hp : p < m) (h : x ∈ startsK p (kat kd p)) : x ∈ eachTo kd m := by
  unfold eachTo
  rw [List.mem_flatMap]
  exact ⟨p, by simpa using hp, h⟩
theorem startsTo_of {p c : Nat} {xs : List Bool} {j i : Nat} (hi : i < j) (h : xs[i]?.getD false = true) : ((64 * p + i * sz c : Nat) : Int) ∈ startsTo p c xs j := by
  unfold startsTo
  rw [List.mem_map]
  exact ⟨i, by rw [List.mem_filter]; exact ⟨by simpa using hi, h⟩, rfl⟩
theorem WF.each_of {kd : List PK} (h : WF kd) {a n : Nat} (hf : findN kd a = some (a, n)) : (a : Int) ∈ eachK kd := by
  cases hk : kat kd (a / 64) with
  | zero => rw [find_zero kd a hk] at hf; cases hf
  | free => rw [find_free kd a hk] at hf; cases hf
  | small c xs =>
    obtain ⟨hc, hl, _⟩ := h.small _ c xs hk
    rw [find_small kd a c xs hk] at hf
    split at hf
    · rename_i hx
      injection hf with hf
      injection hf with h1 h2
      obtain ⟨y1, y2, y3, y4⟩ := sz_word c a hc
      have e : a = 64 * (a / 64) + a % 64 / sz c * sz c := by omega
      refine eachTo_of (p := a / 64) (kat_lt _ _ (by rw [hk]; simp)) ?_
      rw [hk]
      show (a : Int) ∈ startsTo _ _ _ _
      have := startsTo_of (p := a / 64) (c := c) (xs := xs) (j := xs.length) (i := a % 64 / sz c) (by rw [hl]; exact y2) hx
      rw [← e] at this
      exact this
    · cases hf
  | part j k =>
    rw [find_part kd a j k hk] at hf
    injection hf with hf
    injection hf with h1 h2
    have hp0 := h.part0 hk
    obtain rfl : j = 0 := by omega
    refine eachTo_of (p := a / 64) (kat_lt _ _ (by rw [hk]; simp)) ?_
    rw [hk]
    show (a : Int) ∈ [((64 * (a / 64) : Nat) : Int)]
    simp; omega
theorem WF.each_iff {kd : List PK} (h : WF kd) (x : Int) : x ∈ eachK kd ↔ ∃ a n : Nat, x = a ∧ findN kd a = some (a, n) := by
  constructor
  · intro hx
    obtain ⟨a, n, h1, _, _, h2⟩ := h.each_in _ x hx
    exact ⟨a, n, h1, h2⟩
  · rintro ⟨a, n, rfl, h2⟩
    exact h.each_of h2
theorem nodup_of_rises {L : List Int} (h : L.Pairwise (· < ·)) : L.Nodup := h.imp (fun {a b} h e => by omega)
theorem WF.each_nodup {kd : List PK} (h : WF kd) : (eachK kd).Nodup := nodup_of_rises (h.each_rises _)
theorem AllocR.count {kd kd' : List PK} {n : Int} {a : Nat} (h : WF kd) (hr : AllocR kd n (some (a, kd'))) : (eachK kd').length = (eachK kd).length + 1 := by
  obtain ⟨b, hb, h1, h2, h3, h4, h5, h6, h7⟩ := hr.spec h
  have hp : (eachK kd').Perm ((a : Int) :: eachK kd) := by
    refine (List.perm_ext_iff_of_nodup h2.each_nodup ?_).2 (fun x => ?_)
    · rw [List.nodup_cons]
      refine ⟨fun e => ?_, h.each_nodup⟩
      obtain ⟨c, m, e1, e2⟩ := (h.each_iff _).1 e
      obtain rfl : c = a := by omega
      rw [h6 c (by omega) (by omega)] at e2
      cases e2
    · rw [h2.each_iff, List.mem_cons, h.each_iff]
      constructor
      · rintro ⟨c, m, rfl, e⟩
        rw [h7] at e
        split at e
        · cases e; exact .inl rfl
        · exact .inr ⟨c, m, rfl, e⟩
      · rintro (rfl | ⟨c, m, rfl, e⟩)
        · exact ⟨a, b, rfl, by rw [h7, if_pos (by omega)]⟩
        · refine ⟨c, m, rfl, ?_⟩
          rw [h7, if_neg ?_]
          · exact e
          · intro g; rw [h6 c g.1 g.2] at e; cases e
  rw [hp.length_eq]; rfl
/-- Rising, place by place. -/
theorem WF.each_lt {kd : List PK} (h : WF kd) {i j : Nat} (hij : i < j) (hj : j < (eachK kd).length) : (eachK kd)[i]?.getD 0 < (eachK kd)[j]?.getD 0 := by
  have := List.pairwise_iff_getElem.1 (h.each_rises kd.length) i j (show i < (eachTo kd kd.length).length by unfold eachK at hj; omega) hj hij
  have hi : i < (eachK kd).length := by omega
  rw [List.getElem?_eq_getElem hi, List.getElem?_eq_getElem hj]
  exact this

end Go.Proofs.Ytgpidokklhjfdaa

/-
  Two lists of integers that a call grows by turns, each in memory of its own.
-/
namespace Go.Proofs.Ytgpidokklhjfdaa
open Go.RowKit

theorem snoc_old (L : List Int) (x : Int) (t : Nat) (h : t < L.length) : (L ++ [x])[t]?.getD 0 = L[t]?.getD 0 := by rw [List.getElem?_append_left h]
theorem snoc_new (L : List Int) (x : Int) (t : Nat) (h : t = L.length) : (L ++ [x])[t]?.getD 0 = x := by subst h; simp
theorem own_keep {S : List Nat} {w w' : World} {base : Nat} {e : TypeId} {size : Nat} {v : Value} {n : Nat} {xs : List Value} (h : w.ownsRow base e size v n xs) (k : Keep S w w') (hS : ∀ x, x ∈ S → x < base) : w'.ownsRow base e size v n xs := by
  refine ⟨h.1, ?_⟩
  rcases h.2 with h | ⟨g, cap, cur, h1, h2, h3, h4⟩
  · exact .inl h
  · exact .inr ⟨g, cap, cur, h1, h2, k.blk h3 (fun e => by have := hS g e; omega), h4⟩
/-- Two slices lie in two blocks. -/
def Apart (la ls : Option Addr) : Prop := ∀ x y, la = some x → ls = some y → x.block ≠ y.block
theorem Apart.kept {la ls : Option Addr} (h : Apart la ls) (q c q' c' : Nat) : (Value.slice ls q c).ownBlock = none ∨ (Value.slice ls q c).ownBlock ≠ (Value.slice la q' c').ownBlock := by
  cases ls with
  | none => exact .inl rfl
  | some y =>
    cases la with
    | none => exact .inr (by simp [Value.ownBlock])
    | some x => exact .inr (by have := h x y rfl rfl; simp [Value.ownBlock]; omega)
theorem Apart.symm {la ls : Option Addr} (h : Apart la ls) : Apart ls la := fun x y hx hy e => h y x hy hx e.symm
theorem Apart.grown {la ls : Option Addr} {g q c H : Nat} (h : Apart la ls) (hg : (Value.slice la q c).ownBlock = some g ∨ g = H) (hl : ∀ y, ls = some y → y.block < H) : Apart (some ⟨g, 0, none⟩) ls := by
  intro x y hx hy e
  cases hx
  simp only at e
  rcases hg with hg | hg
  · cases la with
    | none => simp [Value.ownBlock] at hg
    | some z => simp [Value.ownBlock] at hg; exact h z y rfl hy (by omega)
  · have := hl y hy; omega
theorem own_at {w : World} {base : Nat} {e : TypeId} {la : Option Addr} {q c : Nat} {L : List Int} (h : w.ownsRow base e 1 (.slice la q c) q (ints L)) (hb : ∀ i : Nat, -9223372036854775808 ≤ L[i]?.getD 0 ∧ L[i]?.getD 0 ≤ 9223372036854775807) :
    IntsAt w la L ∧ L.length = q ∧ (∀ y, la = some y → base ≤ y.block ∧ y.block < w.heap.size) := by
  have hn : L.length = q := by have := h.1; rw [ints_length, Nat.mul_one] at this; exact this
  rcases own_ints h hb with ⟨h1, h2, _⟩ | ⟨g, cap, h1, _, h3, h4, h5⟩
  · cases h1; subst h2; exact ⟨IntsAt.nil _ _, hn, fun y hy => by cases hy⟩
  · cases h1; exact ⟨h5, hn, fun y hy => by cases hy; exact ⟨h3, h4⟩⟩
theorem grown_keep {w w' : World} {la : Option Addr} {q c : Nat} (hg : w.grownBy w' (Value.slice la q c).ownBlock) : Keep (la.toList.map (·.block)) w w' := by
  refine ⟨hg.os, hg.tape, hg.output, hg.size, fun k hk hS => hg.block k hk (fun e => hS ?_)⟩
  cases la with
  | none => simp [Value.ownBlock] at e
  | some x => simp [Value.ownBlock] at e; simp [e]
theorem blocks_ge {la : Option Addr} {base m : Nat} (h : ∀ y, la = some y → base ≤ y.block ∧ y.block < m) : ∀ x, x ∈ la.toList.map (·.block) → base ≤ x := by
  intro x hx
  cases la with
  | none => simp at hx
  | some y => simp at hx; subst hx; exact (h y rfl).1

theorem own_keepS {S : List Nat} {w w' : World} {base : Nat} {e : TypeId} {size : Nat} {la : Option Addr} {q c n : Nat} {xs : List Value} (h : w.ownsRow base e size (.slice la q c) n xs) (k : Keep S w w') (hS : ∀ y, la = some y → y.block ∉ S) : w'.ownsRow base e size (.slice la q c) n xs := by
  refine ⟨h.1, ?_⟩
  rcases h.2 with h | ⟨g, cap, cur, h1, h2, h3, h4⟩
  · exact .inl h
  · refine .inr ⟨g, cap, cur, h1, h2, k.blk h3 ?_, h4⟩
    cases h1
    exact hS _ rfl

end Go.Proofs.Ytgpidokklhjfdaa

/-
  A row of one's own that append made: its first cells, and the same when one of them is set. It speaks of no program.
-/
namespace Go.Proofs.Ytgpidokklhjfdaa
open Go.RowKit

/-- Block g begins with these integers. -/
def PRow (w : World) (t : TypeId) (g : Nat) (L : List Int) : Prop := ∃ cur : Array Value, w.heap[g]? = some (.cells cur t (0, 0)) ∧ ∀ i : Nat, i < L.length → cur[i]? = some (.int .i64 (L[i]?.getD 0))
theorem PRow.lt {w : World} {t : TypeId} {g : Nat} {L : List Int} (h : PRow w t g L) : g < w.heap.size := by obtain ⟨cur, h, _⟩ := h; exact lt_of_block h
theorem PRow.keep {S : List Nat} {w w' : World} {t : TypeId} {g : Nat} {L : List Int} (h : PRow w t g L) (k : Keep S w w') (hS : g ∉ S) : PRow w' t g L := by obtain ⟨cur, h1, h2⟩ := h; exact ⟨cur, k.blk h1 hS, h2⟩
theorem PRow.cell {w : World} {t : TypeId} {g : Nat} {L : List Int} (h : PRow w t g L) {i : Nat} (hi : i < L.length) : w.cell? ⟨g, i, none⟩ = some (.int .i64 (L[i]?.getD 0)) := by
  obtain ⟨cur, h1, h2⟩ := h
  simp [World.cell?, h1, h2 i hi]
theorem PRow.free {w : World} {t : TypeId} {g : Nat} {L : List Int} (h : PRow w t g L) (i : Nat) : w.frozen? ⟨g, i, none⟩ = false := by
  obtain ⟨cur, h1, _⟩ := h
  simp [World.frozen?, h1]
theorem PRow.put {w : World} {t : TypeId} {g : Nat} {L : List Int} (h : PRow w t g L) (i : Nat) (x : Int) : PRow (w.setCell ⟨g, i, none⟩ (.int .i64 x)) t g (L.set i x) := by
  obtain ⟨cur, h1, h2⟩ := h
  refine ⟨_, heap_setCell_same w g i cur t (.int .i64 x) h1, fun j hj => ?_⟩
  rw [List.length_set] at hj
  have h3 := h2 j hj
  have hc : j < cur.size := by
    rcases Nat.lt_or_ge j cur.size with e | e
    · exact e
    · rw [Array.getElem?_eq_none e] at h3; cases h3
  by_cases e : i = j
  · subst e; rw [set_get_same _ _ _ hj, Array.getElem?_setIfInBounds_self_of_lt hc]
  · rw [set_get_other _ _ _ _ e, Array.getElem?_setIfInBounds_ne e]; exact h3
theorem own_prow {w : World} {base : Nat} {e : TypeId} {v : Value} {n : Nat} {L : List Int} (h : w.ownsRow base e 1 v n (ints L)) (h0 : 0 < n) :
    ∃ g cap, v = .slice (some ⟨g, 0, none⟩) n cap ∧ L.length = n ∧ base ≤ g ∧ PRow w e g L := by
  have hn : n = L.length := by have := h.1; rw [ints_length, Nat.mul_one] at this; exact this.symm
  rcases h.2 with ⟨_, h1⟩ | ⟨g, cap, cur, h1, hb, hg, hc1, _, hsz, hcur⟩
  · omega
  · refine ⟨g, cap, h1, hn.symm, hb, cur, hg, fun i hi => ?_⟩
    rw [Nat.mul_one] at hcur
    have h3 : cur.toList[i]? = some (.int .i64 (L[i]?.getD 0)) := by
      have h2 := ints_get L i hi
      rw [← hcur, List.getElem?_take, if_pos (by omega)] at h2
      exact h2
    simpa using h3
/-- What an append turns. -/
theorem Keep.ofGrown {w w' : World} {row : Option Nat} (h : w.grownBy w' row) : Keep row.toList w w' :=
  ⟨h.os, h.tape, h.output, h.size, fun k hk hS => h.block k hk (fun e => hS (by rw [← e]; simp))⟩
theorem Keep.grownS {S : List Nat} {w1 w w' : World} {row : Option Nat} (h : Keep S w1 w) (hg : w.grownBy w' row) (hrow : ∀ k, row = some k → w1.heap.size ≤ k) : Keep S w1 w' :=
  ⟨hg.os.trans h.os, hg.tape.trans h.tape, hg.output.trans h.output, Nat.le_trans h.size hg.size, fun k hk hS =>
    (hg.block k (Nat.lt_of_lt_of_le hk h.size) (fun e => by have := hrow k e.symm; omega)).trans (h.block k hk hS)⟩

end Go.Proofs.Ytgpidokklhjfdaa

/-
  A list of integers that begins at some place of a row of one's own, and has room behind it; what append leaves of it; parts of memory in a row. It speaks of no program.
-/
namespace Go.Proofs.Ytgpidokklhjfdaa
open Go.RowKit

/-- v is a list that is one's own: it holds L, and what lies behind it up to its capacity is free. -/
def IsMid (w : World) (t : TypeId) (v : Value) (L : List Int) : Prop :=
  (v = .slice none 0 0 ∧ L = []) ∨ ∃ g o cap cur, v = .slice (some ⟨g, o, none⟩) L.length cap ∧ w.heap[g]? = some (.cells cur t (0, 0)) ∧ L.length ≤ cap ∧ cap ≤ maxLen ∧ o + cap ≤ cur.size ∧ ∀ i, i < L.length → cur[o + i]? = some (.int .i64 (L[i]?.getD 0))
def inR (L : List Int) : Prop := ∀ i : Nat, -9223372036854775808 ≤ L[i]?.getD 0 ∧ L[i]?.getD 0 ≤ 9223372036854775807

theorem IsMid.keep {S : List Nat} {w w' : World} {t : TypeId} {v : Value} {L : List Int} (h : IsMid w t v L) (K : Keep S w w') (hS : ∀ k, v.ownBlock = some k → k ∉ S) : IsMid w' t v L := by
  rcases h with h | ⟨g, o, cap, cur, h1, h2, h3⟩
  · exact .inl h
  · subst h1; exact .inr ⟨g, o, cap, cur, rfl, K.blk h2 (hS g rfl), h3⟩
theorem IsMid.lt {w : World} {t : TypeId} {v : Value} {L : List Int} (h : IsMid w t v L) : ∀ k, v.ownBlock = some k → k < w.heap.size := by
  intro k hk
  rcases h with ⟨h, _⟩ | ⟨g, o, cap, cur, h1, h2, _⟩
  · subst h; cases hk
  · subst h1; cases hk; exact lt_of_block h2
theorem IsMid.ints {w : World} {t : TypeId} {la : Option Addr} {n c : Nat} {L : List Int} (h : IsMid w t (.slice la n c) L) (hb : inR L) : IntsAt w la L ∧ L.length = n ∧ (la = none → c = 0) ∧ n ≤ c := by
  rcases h with ⟨h, rfl⟩ | ⟨g, o, cap, cur, h1, h2, h3, h4, h5, h6⟩
  · cases h; exact ⟨IntsAt.nil _ _, rfl, fun _ => rfl, Nat.le_refl _⟩
  · cases h1
    refine ⟨⟨fun _ => ⟨g, o, rfl, lt_of_block h2, fun i hi => ?_⟩, fun i => (hb i).1, fun i => (hb i).2⟩, rfl, (fun e => by cases e), h3⟩
    simp [World.cell?, h2, h6 i hi]
theorem IsMid.form {w : World} {t : TypeId} {v : Value} {L : List Int} (h : IsMid w t v L) : ∃ la c, v = .slice la L.length c := by
  rcases h with ⟨rfl, rfl⟩ | ⟨g, o, cap, cur, h1, _⟩
  · exact ⟨none, 0, rfl⟩
  · exact ⟨_, _, h1⟩
theorem IsMid.nil (w : World) (t : TypeId) : IsMid w t (.slice none 0 0) [] := .inl ⟨rfl, rfl⟩
/-- A row that append made. -/
theorem own_mid {w : World} {base : Nat} {t : TypeId} {v : Value} {n : Nat} {L : List Int} (h : w.ownsRow base t 1 v n (ints L)) : IsMid w t v L := by
  have hn : n = L.length := by have := h.1; rw [ints_length, Nat.mul_one] at this; exact this.symm
  rcases h.2 with ⟨h1, h2⟩ | ⟨g, cap, cur, h1, _, h3, h4, h5, h6, h7⟩
  · exact .inl ⟨h1, List.length_eq_zero_iff.1 (by omega)⟩
  · refine .inr ⟨g, 0, cap, cur, by rw [h1, hn], h3, by omega, h5, by omega, fun i hi => ?_⟩
    have e := ints_get L i hi
    rw [← h7, List.getElem?_take, if_pos (by omega)] at e
    rw [Nat.zero_add]
    simpa using e
/-- The first one goes. -/
theorem IsMid.tail {w : World} {t : TypeId} {g o cap : Nat} {x : Int} {L : List Int} (h : IsMid w t (.slice (some ⟨g, o, none⟩) (L.length + 1) cap) (x :: L)) :
    IsMid w t (.slice (if cap = 1 then some ⟨g, o, none⟩ else some ⟨g, o + 1, none⟩) L.length (cap - 1)) L := by
  rcases h with ⟨h, _⟩ | ⟨g', o', cap', cur, h1, h2, h3, h4, h5, h6⟩
  · cases h
  · cases h1
    rw [List.length_cons] at h3 h6
    by_cases e : cap = 1
    · rw [if_pos e]
      exact .inr ⟨g, o, cap - 1, cur, rfl, h2, by omega, by omega, by omega, fun i hi => by omega⟩
    · rw [if_neg e]
      refine .inr ⟨g, o + 1, cap - 1, cur, rfl, h2, by omega, by omega, by omega, fun i hi => ?_⟩
      have := h6 (i + 1) (by omega)
      rw [show o + 1 + i = o + (i + 1) by omega, this]; simp

theorem lt_of_cell2' {w : World} {b o : Nat} {v : Value} (h : w.cell? ⟨b, o, none⟩ = some v) : b < w.heap.size := by
  rcases Nat.lt_or_ge b w.heap.size with h' | h'
  · exact h'
  · simp [World.cell?, Array.getElem?_eq_none h'] at h
theorem snoc_get (L : List Int) (y : Int) (i : Nat) (h : i < L.length) : (L ++ [y])[i]?.getD 0 = L[i]?.getD 0 := by rw [List.getElem?_append_left h]
/-- What append of one integer comes to. -/
theorem run_append_mid {P : Program} (w : World) (t ty e : TypeId) (i : TypeInfo) (ht : P.underlying t = some (.slice e)) (hi : P.info? e = some i ∧ i.zero = some (.int .i64 0) ∧ i.size = 1 ∧ i.bytes = 8)
    (v : Value) (L : List Int) (hv : IsMid w e v L) (ad : Addr) (y : Int) (c : Nat) (hy : w.cell? ad = some (.int .i64 y)) (ha : ad.add 0 = ad) (hl : L.length ≤ 1000000) :
    ∃ v' w', (Builtin.append_ #[t, t] ty #[v, .slice (some ad) 1 c]).run P w = .ok v' w' ∧ IsMid w' e v' (L ++ [y]) ∧ Keep v.ownBlock.toList w w' ∧ ∀ k, v'.ownBlock = some k → v.ownBlock = some k ∨ w.heap.size ≤ k := by
  obtain ⟨h1, h2, h3, h4⟩ := hi
  have hnews : ∀ j u, (ints [y])[j]? = some u → w.cell? (ad.add j) = some u := by
    intro j u hu
    rcases j with _ | j
    · rw [ha, hy]; simpa [ints] using hu
    · simp [ints] at hu
  rcases hv with ⟨rfl, rfl⟩ | ⟨g, o, cap, cur, rfl, hg, hlc, hcm, hsz, hcur⟩
  · obtain ⟨v', w', hrun, hown, hgr, _⟩ := run_append_own (P := P) w w.heap.size t ty e i (.int .i64 0) 1 8 ht h1 h2 h3 h4 rfl (by decide) (.slice none 0 0) 0 [] (World.ownsRow_nil w _ e 1) ad 1 c (ints [y]) (by simp [ints]) hnews (ints_one _) (by unfold maxLen; omega) (by omega) (Nat.le_refl _)
    rw [show ([] : List Value) ++ ints [y] = ints ([] ++ [y]) from rfl] at hown
    refine ⟨v', w', hrun, own_mid hown, Keep.ofGrown hgr, fun k hk => .inr (own_block hown k hk)⟩
  · by_cases hroom : L.length + 1 ≤ cap
    · have hcell : o + L.length < cur.size := by omega
      refine ⟨_, _, run_append_room_cells (P := P) w t ty e i ht h1 g o L.length cap ad 1 c (ints [y]) (by rw [h3]; simp [ints]) hnews (ints_one _) hroom ?_ ?_, ?_, ?_, ?_⟩
      · intro j hj
        obtain rfl : j = 0 := by simpa [ints] using hj
        rw [h3]
        simp [World.cell?, hg, hcell]
      · intro j hj
        simp [World.frozen?, hg]
      · have hset := heap_setCell_same w g (o + L.length) cur e (.int .i64 y) hg
        refine .inr ⟨g, o, cap, cur.setIfInBounds (o + L.length) (.int .i64 y), by simp, ?_, by simpa using hroom, hcm, by simpa using hsz, fun j hj => ?_⟩
        · rw [h3, Nat.mul_one]; simpa [World.setCells, ints] using hset
        · rw [List.length_append, List.length_singleton] at hj
          by_cases e : j = L.length
          · subst e
            rw [Array.getElem?_setIfInBounds_self_of_lt hcell]; simp
          · rw [Array.getElem?_setIfInBounds_ne (by omega), snoc_get L y j (by omega)]
            exact hcur j (by omega)
      · rw [h3, Nat.mul_one]
        have := Keep.setCell (S := [g]) w (a := ⟨g, o + L.length, none⟩) (.int .i64 y) (by simp)
        simpa [World.setCells, ints, Value.ownBlock] using this
      · intro k hk; exact .inl (by simpa [Value.ownBlock] using hk)
    · obtain ⟨v', w', hrun, hown, hgr⟩ := run_append_arg_grows (P := P) w t ty e i (.int .i64 0) 1 8 ht h1 h2 h3 h4 rfl (by decide) ⟨g, o, none⟩ L.length cap (ints L) (by rw [ints_length, Nat.mul_one]) (by
        intro j u hu
        have hj : j < L.length := by
          rcases Nat.lt_or_ge j L.length with hj | hj
          · exact hj
          · rw [List.getElem?_eq_none (by rw [ints_length]; exact hj)] at hu; cases hu
        rw [ints_get L j hj] at hu
        rw [Addr.add_lit]
        simp [World.cell?, hg, hcur j hj]
        exact Option.some.inj hu) ad 1 c (ints [y]) (by simp [ints]) hnews (by omega) (by unfold maxLen; omega) (by omega)
      rw [ints_app] at hown
      refine ⟨v', w', hrun, own_mid hown, (Keep.ofGrown hgr).mono (by simp), fun k hk => .inr (own_block hown k hk)⟩

/-- For the walk. -/
theorem wpList_append_mid {P : Program} (w : World) {ops : Array Oper} {rest : List Oper} {o : Oper} {a : Act} {Q : Exit → Act → World → Prop} (hgd : o.guard = none) (s x : Operand) (t : TypeId)
    (ho : o.op = .call { callee := .builtin .append, args := #[s, x], argTypes := #[t, t] }) (e : TypeId) (i : TypeInfo) (ht : P.underlying t = some (.slice e)) (hi : P.info? e = some i ∧ i.zero = some (.int .i64 0) ∧ i.size = 1 ∧ i.bytes = 8)
    (v : Value) (L : List Int) (hs : a.eval s = v) (hv : IsMid w e v L) (b : Nat) (y : Int) (c : Nat) (hx : a.eval x = .slice (some ⟨b, 0, none⟩) 1 c) (hy : w.cell? ⟨b, 0, none⟩ = some (.int .i64 y)) (hl : L.length ≤ 1000000)
    (h : ∀ v' w', IsMid w' e v' (L ++ [y]) → Keep v.ownBlock.toList w w' → (∀ k, v'.ownBlock = some k → v.ownBlock = some k ∨ w.heap.size ≤ k) → wpList P ops Q rest (a.put o.dst v') w') : wpList P ops Q (o :: rest) a w := by
  refine wpList_plain hgd fun K hK' => ?_
  obtain ⟨v', w', hrun, r1, r2, r3⟩ := run_append_mid (P := P) w t o.type e i ht hi v L hv ⟨b, 0, none⟩ y c hy (by simp [Addr.add]) hl
  unfold Oper.wp
  simp [execOp, ho, resolve, invoke, builtin, hs, hx, hrun, Result.andThen]
  exact hK' _ _ (h v' w' r1 r2 r3)
/-- At a step of a region that draws. -/
theorem step_append_mid {P : Program} (w : World) {ops : Array Oper} {o : Oper} {a : Act} {K : Act → World → Prop} {Q : Exit → Act → World → Prop} {E : Prop} (hgd : o.guard = none) (s x : Operand) (t : TypeId)
    (ho : o.op = .call { callee := .builtin .append, args := #[s, x], argTypes := #[t, t] }) (e : TypeId) (i : TypeInfo) (ht : P.underlying t = some (.slice e)) (hi : P.info? e = some i ∧ i.zero = some (.int .i64 0) ∧ i.size = 1 ∧ i.bytes = 8)
    (v : Value) (L : List Int) (hs : a.eval s = v) (hv : IsMid w e v L) (b : Nat) (y : Int) (c : Nat) (hx : a.eval x = .slice (some ⟨b, 0, none⟩) 1 c) (hy : w.cell? ⟨b, 0, none⟩ = some (.int .i64 y)) (hl : L.length ≤ 1000000)
    (h : ∀ v' w', IsMid w' e v' (L ++ [y]) → Keep v.ownBlock.toList w w' → (∀ k, v'.ownBlock = some k → v.ownBlock = some k ∨ w.heap.size ≤ k) → K (a.put o.dst v') w') :
    if Region.wanted o (yielded ops a.tmps) = true then Oper.wp P o a w K Q else E := by
  have hw : Region.wanted o (yielded ops a.tmps) = true := by simp [Region.wanted, hgd]
  rw [if_pos hw]
  obtain ⟨v', w', hrun, r1, r2, r3⟩ := run_append_mid (P := P) w t o.type e i ht hi v L hv ⟨b, 0, none⟩ y c hy (by simp [Addr.add]) hl
  unfold Oper.wp
  simp [execOp, ho, resolve, invoke, builtin, hs, hx, hrun, Result.andThen]
  exact h v' w' r1 r2 r3

/-! ### As parts of memory -/
def midA (t : TypeId) (v : Value) (L : List Int) : Asn where
  at' w F := F = v.ownBlock.toList ∧ IsMid w t v L
  keep := fun h K hS => ⟨h.1, h.2.keep K (fun k e => hS k (by rw [h.1, e]; simp))⟩
  lt := fun h k hk => by
    rw [h.1] at hk
    exact h.2.lt k (by simpa using hk)
/-- A row of values of one cell each, of one's own. -/
def vecA (t : TypeId) (va : Option Addr) (vc : Nat) (vs : List Value) : Asn where
  at' w F := F = va.toList.map (·.block) ∧ w.ownsRow 0 t 1 (.slice va vs.length vc) vs.length vs ∧ ∀ a, va = some a → a.block < w.heap.size
  keep := fun h K hS => ⟨h.1, own_keepS h.2.1 K (fun y e => hS _ (by rw [h.1, e]; simp)), fun a e => Nat.lt_of_lt_of_le (h.2.2 a e) K.size⟩
  lt := fun h k hk => by
    rw [h.1] at hk
    simp at hk
    obtain ⟨a, e, rfl⟩ := hk
    exact h.2.2 a e
def emptyA : Asn where
  at' _ F := F = []
  keep := fun h _ _ => h
  lt := fun h k hk => by rw [h] at hk; cases hk
/-- A part one of whose cells is known. -/
def Asn.pin (A : Asn) (b j : Nat) (v : Value) : Asn where
  at' w F := A.at' w F ∧ b ∈ F ∧ w.cell? ⟨b, j, none⟩ = some v
  keep := fun h K hS => ⟨A.keep h.1 K hS, h.2.1, (K.cell (A.lt h.1 _ h.2.1) (hS _ h.2.1) _).trans h.2.2⟩
  lt := fun h => A.lt h.1
/-- Parts in a row, no two of which share a block. -/
def rowA : List Asn → Asn
  | [] => emptyA
  | A :: l => A.star (rowA l)
theorem star_mono {A B B' : Asn} {w : World} {F : List Nat} (g : ∀ F, B.at' w F → B'.at' w F) (h : (A.star B).at' w F) : (A.star B').at' w F := by
  obtain ⟨F1, F2, hF, h1, h2, hd⟩ := h
  exact ⟨F1, F2, hF, h1, g F2 h2, hd⟩
theorem rowA_get {w : World} {A : Asn} : ∀ (l : List Asn) (i : Nat) (F : List Nat), l[i]? = some A → (rowA l).at' w F → (A.star (rowA (l.eraseIdx i))).at' w F
  | [], i, F, e, _ => by simp at e
  | B :: l, 0, F, e, h => by
    simp at e
    subst e
    exact h
  | B :: l, i + 1, F, e, h => by
    have h1 : (B.star (A.star (rowA (l.eraseIdx i)))).at' w F := star_mono (fun F g => rowA_get l i F (by simpa using e) g) h
    have h2 := star_assoc' h1
    have h3 : ((A.star B).star (rowA (l.eraseIdx i))).at' w F := star_comm (star_mono (fun F g => star_comm g) (star_comm h2))
    exact star_assoc h3
theorem rowA_put {w : World} {A : Asn} : ∀ (l : List Asn) (i : Nat) (F : List Nat), i < l.length → (A.star (rowA (l.eraseIdx i))).at' w F → (rowA (l.set i A)).at' w F
  | [], i, F, e, _ => by simp at e
  | B :: l, 0, F, e, h => h
  | B :: l, i + 1, F, e, h => by
    have h0 : (A.star (B.star (rowA (l.eraseIdx i)))).at' w F := h
    have h1 := star_assoc' h0
    have h2 : ((B.star A).star (rowA (l.eraseIdx i))).at' w F := star_comm (star_mono (fun F g => star_comm g) (star_comm h1))
    exact star_mono (fun F g => rowA_put l i F (by simpa using e) g) (star_assoc h2)
theorem rowA_snoc {w : World} {A : Asn} : ∀ (l : List Asn) (F : List Nat), ((rowA l).star A).at' w F → (rowA (l ++ [A])).at' w F
  | [], F, h => by
    obtain ⟨F1, F2, hF, h1, h2, hd⟩ := h
    exact ⟨F2, F1, fun k => (hF k).trans Or.comm, h2, h1, fun k e e' => hd k e' e⟩
  | B :: l, F, h => star_mono (fun F g => rowA_snoc l F g) (star_assoc h)
/-- One of them is turned. -/
theorem Has.inRow {w0 w w' : World} {F0 : List Nat} {l : List Asn} {i : Nat} {A A' : Asn} (h : Has w0 F0 (rowA l) w) (e : l[i]? = some A) (g : ∀ F, A.at' w F → Has w F A' w') : Has w0 F0 (rowA (l.set i A')) w' := by
  have hi : i < l.length := by
    rcases Nat.lt_or_ge i l.length with hi | hi
    · exact hi
    · rw [List.getElem?_eq_none hi] at e; cases e
  exact (Has.left (h.map (fun F h => rowA_get l i F e h)) g).map (fun F h => rowA_put l i F hi h)

end Go.Proofs.Ytgpidokklhjfdaa

/-
  The builtin append of many integers onto a list that is one's own, and has room behind it; such a list, cut. It speaks of no program.
-/
namespace Go.Proofs.Ytgpidokklhjfdaa
open Go.RowKit

theorem cells_put (g : Nat) (t : TypeId) : ∀ (vs : List Value) (o : Nat) (w : World) (cur : Array Value), w.heap[g]? = some (.cells cur t (0, 0)) → ∃ cur', (w.setCells g o vs).heap[g]? = some (.cells cur' t (0, 0)) ∧ cur'.size = cur.size ∧ (∀ k, k < o → cur'[k]? = cur[k]?) ∧ ∀ k, k < vs.length → o + k < cur.size → cur'[o + k]? = vs[k]?
  | [], o, w, cur, h => ⟨cur, h, rfl, fun _ _ => rfl, fun k hk => by simp at hk⟩
  | v :: vs, o, w, cur, h => by
    obtain ⟨cur', e1, e2, e3, e4⟩ := cells_put g t vs (o + 1) (w.setCell ⟨g, o, none⟩ v) _ (heap_setCell_same w g o cur t v h)
    refine ⟨cur', e1, by rw [e2]; simp, fun k hk => ?_, fun k hk hs => ?_⟩
    · rw [e3 k (by omega), Array.getElem?_setIfInBounds_ne (by omega)]
    · rcases k with _ | k
      · rw [Nat.add_zero] at hs ⊢
        rw [e3 o (by omega), Array.getElem?_setIfInBounds_self_of_lt hs]; rfl
      · rw [show o + (k + 1) = o + 1 + k by omega, e4 k (by simpa using hk) (by simp; omega)]; rfl
theorem keep_cells (g : Nat) : ∀ (vs : List Value) (o : Nat) (w : World), Keep [g] w (w.setCells g o vs)
  | [], _, w => Keep.refl _ _
  | v :: vs, o, w => (Keep.setCell (S := [g]) w (a := ⟨g, o, none⟩) v (by simp)).trans (keep_cells g vs (o + 1) _)
theorem IsMid.capR {w : World} {t : TypeId} {la : Option Addr} {n c : Nat} {L : List Int} (h : IsMid w t (.slice la n c) L) : c ≤ maxLen := by
  rcases h with ⟨e, _⟩ | ⟨_, _, _, _, e, _, _, e3, _⟩
  · cases e; exact Nat.zero_le _
  · cases e; exact e3
theorem IsMid.le {w : World} {t : TypeId} {la : Option Addr} {n c : Nat} {L : List Int} (h : IsMid w t (.slice la n c) L) : L.length = n ∧ n ≤ c := by
  rcases h with ⟨e, rfl⟩ | ⟨_, _, _, _, e, _, e2, _⟩
  · cases e; exact ⟨rfl, Nat.le_refl _⟩
  · cases e; exact ⟨rfl, e2⟩
theorem IsMid.some {w : World} {t : TypeId} {la : Option Addr} {n c : Nat} {L : List Int} (h : IsMid w t (.slice la n c) L) (h0 : 0 < n) : ∃ g o, la = some ⟨g, o, none⟩ := by
  rcases h with ⟨e, rfl⟩ | ⟨g, o, _, _, e, _⟩
  · cases e; omega
  · cases e; exact ⟨g, o, rfl⟩
theorem mid_cells {w : World} {t : TypeId} {g o n cap : Nat} {L : List Int} (h : IsMid w t (.slice (some ⟨g, o, none⟩) n cap) L) {i : Nat} (hi : i < n) : w.cell? ⟨g, o + i, none⟩ = some (.int .i64 (L[i]?.getD 0)) ∧ w.frozen? ⟨g, o + i, none⟩ = false := by
  rcases h with ⟨h, _⟩ | ⟨g', o', cap', cur, h1, h2, h3, h4, h5, h6⟩
  · cases h
  · cases h1
    exact ⟨by simp [World.cell?, h2, h6 i hi], by simp [World.frozen?, h2]⟩
/-- One place of a list of one's own is put. -/
theorem mid_set {w : World} {t : TypeId} {g o n cap : Nat} {L : List Int} (h : IsMid w t (.slice (some ⟨g, o, none⟩) n cap) L) {i : Nat} (hi : i < n) (x : Int) : IsMid (w.setCell ⟨g, o + i, none⟩ (.int .i64 x)) t (.slice (some ⟨g, o, none⟩) n cap) (L.set i x) := by
  rcases h with ⟨h, _⟩ | ⟨g', o', cap', cur, h1, h2, h3, h4, h5, h6⟩
  · cases h
  · cases h1
    have hc : o + i < cur.size := by omega
    have hset := heap_setCell_same w g (o + i) cur t (.int .i64 x) h2
    refine .inr ⟨g, o, cap, cur.setIfInBounds (o + i) (.int .i64 x), by simp, hset, by simpa using h3, h4, by simpa using h5, fun j hj => ?_⟩
    rw [List.length_set] at hj
    by_cases e : j = i
    · subst e
      rw [Array.getElem?_setIfInBounds_self_of_lt hc]; simp [hi]
    · rw [Array.getElem?_setIfInBounds_ne (by omega), h6 j hj, List.getElem?_set_ne (by omega)]
/-- A list of one's own, cut: what lies behind the cut may be anything. -/
theorem mid_clear {w : World} {t : TypeId} {g o n cap : Nat} {L : List Int} (h : IsMid w t (.slice (some ⟨g, o, none⟩) n cap) L) {i : Nat} (hi : i ≤ n) (vs : List Value) : IsMid (w.setCells g (o + i) vs) t (.slice (some ⟨g, o, none⟩) i cap) (L.take i) := by
  rcases h with ⟨h, _⟩ | ⟨g', o', cap', cur, h1, h2, h3, h4, h5, h6⟩
  · cases h
  · cases h1
    obtain ⟨cur', e1, e2, e3, _⟩ := cells_put g t vs (o + i) w cur h2
    refine .inr ⟨g, o, cap, cur', by rw [List.length_take, Nat.min_eq_left hi], e1, by rw [List.length_take]; omega, h4, by rw [e2]; exact h5, fun j hj => ?_⟩
    rw [List.length_take] at hj
    rw [e3 _ (by omega), h6 j (by omega), List.getElem?_take, if_pos (by omega)]
theorem IsMid.cut {w : World} {t : TypeId} {la : Option Addr} {n c : Nat} {L : List Int} (h : IsMid w t (.slice la n c) L) {i : Nat} (hi : i ≤ n) : IsMid w t (.slice la i c) (L.take i) := by
  rcases h with ⟨h, rfl⟩ | ⟨g, o, cap, cur, h1, h2⟩
  · cases h
    obtain rfl : i = 0 := by omega
    exact .inl ⟨rfl, rfl⟩
  · cases h1
    exact mid_clear (L := L) (.inr ⟨g, o, _, cur, rfl, h2⟩) hi []
theorem midA_cut {t : TypeId} {la : Option Addr} {n c i : Nat} {L : List Int} {w : World} {F : List Nat} (h : (midA t (.slice la n c) L).at' w F) (hi : i ≤ n) : (midA t (.slice la i c) (L.take i)).at' w F :=
  ⟨h.1.trans (by cases la <;> rfl), IsMid.cut h.2 hi⟩
/-- What append of many integers comes to. -/
theorem run_append_mids {P : Program} (w : World) (t ty e : TypeId) (i : TypeInfo) (ht : P.underlying t = some (.slice e)) (hi : P.info? e = some i ∧ i.zero = some (.int .i64 0) ∧ i.size = 1 ∧ i.bytes = 8)
    (v : Value) (L : List Int) (hv : IsMid w e v L) (xa : Option Addr) (m c : Nat) (M : List Int) (hM : IntsAt w xa M) (hm : M.length = m) (hl : L.length + m ≤ 1000000) :
    ∃ v' w', (Builtin.append_ #[t, t] ty #[v, .slice xa m c]).run P w = .ok v' w' ∧ IsMid w' e v' (L ++ M) ∧ Keep v.ownBlock.toList w w' ∧ ∀ k, v'.ownBlock = some k → v.ownBlock = some k ∨ w.heap.size ≤ k := by
  cases xa with
  | none =>
    have h0 : M = [] := by
      rcases Nat.eq_zero_or_pos M.length with h0 | h0
      · exact List.length_eq_zero_iff.1 h0
      · obtain ⟨_, _, e, _⟩ := hM.cells h0; cases e
    subst h0
    subst hm
    refine ⟨v, w, ?_, by rw [List.append_nil]; exact hv, Keep.refl _ _, fun k e => .inl e⟩
    rcases hv with ⟨rfl, _⟩ | ⟨g, o, cap, cur, rfl, _, hnc, _⟩
    · simp [Builtin.append_, run_underlying ht, sizeOf, typeInfo, hi.1, Builtin.lenOf, Builtin.firstCells]
    · simp [Builtin.append_, run_underlying ht, sizeOf, typeInfo, hi.1, Builtin.lenOf, Builtin.firstCells, hnc, storeCells]
  | some ad =>
    obtain ⟨h1, h2, h3, h4⟩ := hi
    have hnews : ∀ j u, (ints M)[j]? = some u → w.cell? (ad.add j) = some u := by
      intro j u hu
      have hj : j < M.length := by
        rcases Nat.lt_or_ge j M.length with hj | hj
        · exact hj
        · rw [List.getElem?_eq_none (by rw [ints_length]; exact hj)] at hu; cases hu
      obtain ⟨b, off, e1, _, hcell⟩ := hM.cells (by omega)
      cases e1
      rw [ints_get M j hj] at hu
      rw [Go.WideShapes.add_plain, hcell j hj]; exact hu
    have hlen : (ints M).length = m * 1 := by rw [ints_length]; omega
    rcases hv with ⟨rfl, rfl⟩ | ⟨g, o, cap, cur, rfl, hg, hlc, hcm, hsz, hcur⟩
    · obtain ⟨v', w', hrun, hown, hgr, _⟩ := run_append_own (P := P) w w.heap.size t ty e i (.int .i64 0) 1 8 ht h1 h2 h3 h4 rfl (by decide) (.slice none 0 0) 0 [] (World.ownsRow_nil w _ e 1) ad m c (ints M) hlen hnews (ints_one _) (by unfold maxLen; simp at hl; omega) (by simp at hl; omega) (Nat.le_refl _)
      rw [show ([] : List Value) ++ ints M = ints ([] ++ M) from rfl] at hown
      refine ⟨v', w', hrun, own_mid hown, Keep.ofGrown hgr, fun k hk => .inr (own_block hown k hk)⟩
    · by_cases hroom : L.length + m ≤ cap
      · obtain ⟨cur', e1, e2, e3, e4⟩ := cells_put g e (ints M) (o + L.length) w cur hg
        refine ⟨_, _, run_append_room_cells (P := P) w t ty e i ht h1 g o L.length cap ad m c (ints M) (by rw [h3]; exact hlen) hnews (ints_one _) hroom ?_ ?_, ?_, ?_, ?_⟩
        · intro j hj
          rw [hlen] at hj
          have : o + L.length + j < cur.size := by omega
          rw [h3, Nat.mul_one]
          simp [World.cell?, hg, this]
        · intro j hj
          simp [World.frozen?, hg]
        · refine .inr ⟨g, o, cap, cur', by rw [List.length_append, hm], by rw [h3, Nat.mul_one]; exact e1, by rw [List.length_append]; omega, hcm, by rw [e2]; exact hsz, fun j hj => ?_⟩
          rw [List.length_append] at hj
          by_cases hjl : j < L.length
          · rw [e3 _ (by omega), hcur j hjl, List.getElem?_append_left hjl]
          · have := e4 (j - L.length) (by rw [ints_length]; omega) (by omega)
            rw [show o + L.length + (j - L.length) = o + j by omega] at this
            rw [this, ints_get M _ (by omega), List.getElem?_append_right (by omega)]
        · rw [h3, Nat.mul_one]; exact keep_cells g _ _ _
        · intro k hk; exact .inl (by simpa [Value.ownBlock] using hk)
      · obtain ⟨v', w', hrun, hown, hgr⟩ := run_append_arg_grows (P := P) w t ty e i (.int .i64 0) 1 8 ht h1 h2 h3 h4 rfl (by decide) ⟨g, o, none⟩ L.length cap (ints L) (by rw [ints_length, Nat.mul_one]) (by
          intro j u hu
          have hj : j < L.length := by
            rcases Nat.lt_or_ge j L.length with hj | hj
            · exact hj
            · rw [List.getElem?_eq_none (by rw [ints_length]; exact hj)] at hu; cases hu
          rw [ints_get L j hj] at hu
          rw [Addr.add_lit]
          simp [World.cell?, hg, hcur j hj]
          exact Option.some.inj hu) ad m c (ints M) hlen hnews (by omega) (by unfold maxLen; omega) (by omega)
        rw [ints_app] at hown
        refine ⟨v', w', hrun, own_mid hown, (Keep.ofGrown hgr).mono (by simp), fun k hk => .inr (own_block hown k hk)⟩
/-- For the walk. -/
theorem wpList_append_mids {P : Program} (w : World) {ops : Array Oper} {rest : List Oper} {o : Oper} {a : Act} {Q : Exit → Act → World → Prop} (hgd : o.guard = none) (s x : Operand) (t : TypeId)
    (ho : o.op = .call { callee := .builtin .append, args := #[s, x], argTypes := #[t, t] }) (e : TypeId) (i : TypeInfo) (ht : P.underlying t = some (.slice e)) (hi : P.info? e = some i ∧ i.zero = some (.int .i64 0) ∧ i.size = 1 ∧ i.bytes = 8)
    (v : Value) (L : List Int) (hs : a.eval s = v) (hv : IsMid w e v L) (xa : Option Addr) (m c : Nat) (M : List Int) (hx : a.eval x = .slice xa m c) (hM : IntsAt w xa M) (hm : M.length = m) (hl : L.length + m ≤ 1000000)
    (h : ∀ v' w', IsMid w' e v' (L ++ M) → Keep v.ownBlock.toList w w' → (∀ k, v'.ownBlock = some k → v.ownBlock = some k ∨ w.heap.size ≤ k) → wpList P ops Q rest (a.put o.dst v') w') : wpList P ops Q (o :: rest) a w := by
  refine wpList_plain hgd fun K hK' => ?_
  obtain ⟨v', w', hrun, r1, r2, r3⟩ := run_append_mids (P := P) w t o.type e i ht hi v L hv xa m c M hM hm hl
  unfold Oper.wp
  simp [execOp, ho, resolve, invoke, builtin, hs, hx, hrun, Result.andThen]
  exact hK' _ _ (h v' w' r1 r2 r3)
/-- At a step of a region that draws. -/
theorem step_append_mids {P : Program} (w : World) {ops : Array Oper} {o : Oper} {a : Act} {K : Act → World → Prop} {Q : Exit → Act → World → Prop} {E : Prop} (hgd : o.guard = none) (s x : Operand) (t : TypeId)
    (ho : o.op = .call { callee := .builtin .append, args := #[s, x], argTypes := #[t, t] }) (e : TypeId) (i : TypeInfo) (ht : P.underlying t = some (.slice e)) (hi : P.info? e = some i ∧ i.zero = some (.int .i64 0) ∧ i.size = 1 ∧ i.bytes = 8)
    (v : Value) (L : List Int) (hs : a.eval s = v) (hv : IsMid w e v L) (xa : Option Addr) (m c : Nat) (M : List Int) (hx : a.eval x = .slice xa m c) (hM : IntsAt w xa M) (hm : M.length = m) (hl : L.length + m ≤ 1000000)
    (h : ∀ v' w', IsMid w' e v' (L ++ M) → Keep v.ownBlock.toList w w' → (∀ k, v'.ownBlock = some k → v.ownBlock = some k ∨ w.heap.size ≤ k) → K (a.put o.dst v') w') :
    if Region.wanted o (yielded ops a.tmps) = true then Oper.wp P o a w K Q else E := by
  have hw : Region.wanted o (yielded ops a.tmps) = true := by simp [Region.wanted, hgd]
  rw [if_pos hw]
  obtain ⟨v', w', hrun, r1, r2, r3⟩ := run_append_mids (P := P) w t o.type e i ht hi v L hv xa m c M hM hm hl
  unfold Oper.wp
  simp [execOp, ho, resolve, invoke, builtin, hs, hx, hrun, Result.andThen]
  exact h v' w' r1 r2 r3

/-- A list is another one. -/
theorem Has.midTurn {w0 w w1 : World} {F0 : List Nat} {A : Asn} {t : TypeId} {va va' : Value} {L L' : List Int} (h : Has w0 F0 (A.star (midA t va L)) w) (K : Keep va.ownBlock.toList w w1) (hm : IsMid w1 t va' L') (hg : ∀ k, va'.ownBlock = some k → va.ownBlock = some k ∨ w.heap.size ≤ k) :
    Has w0 F0 (A.star (midA t va' L')) w1 :=
  (Has.left (A' := midA t va' L') h.comm (fun F hF => ⟨va'.ownBlock.toList, ⟨rfl, hm⟩, by rw [hF.1]; exact K, fun k e => by
    rw [hF.1]
    rcases hg k (by simpa using e) with g | g
    · exact .inl (by simp [g])
    · exact .inr g⟩)).comm

end Go.Proofs.Ytgpidokklhjfdaa

/-
  A list of bytes, opened once for all: what each element holds.
-/
namespace Go.Proofs.Ytgpidokklhjfdaa
open Go.ChangeShapes Go.WideShapes Go.ChangeAt Go.RowKit

theorem lt_of_cell' {w : World} {b o : Nat} {v : Value} (h : w.cell? ⟨b, o, none⟩ = some v) : b < w.heap.size := by
  rcases Nat.lt_or_ge b w.heap.size with h' | h'
  · exact h'
  · simp [World.cell?, Array.getElem?_eq_none h'] at h

section
variable {H : Type} {enc : TypeId × Value → H} {P : Program} {w : World} {base : Nat} {spare : Nat → Bool} {held : Bool}

theorem open_u8s {t e : TypeId} {fuel len cap : Nat} {ao : Option Addr} {x : DataW H × List MemPlace} (ht : P.underlying t = some (.slice e)) (he : P.underlying e = some (.int .u8))
    (ce : P.cellsOf e = 1) (h : DataW.trod enc P w base spare held fuel t [.slice ao len cap] = some x) :
    len ≤ 9223372036854775807 ∧ ∃ A, U8At w ao len A := by
  rcases Go.Deep.open_slice1 ht ce h with ⟨h0, _⟩ | ⟨a, len', cap', m, n, V, D, Pl, hcs, hb, hl, hm, hmm, _, hx⟩
  · simp at h0
    obtain ⟨rfl, rfl, rfl⟩ := h0
    exact ⟨by omega, fun _ => 0, fun h => by omega, by simp⟩
  · simp at hcs
    obtain ⟨rfl, rfl, rfl⟩ := hcs
    unfold maxLen at hm
    refine ⟨by omega, ?_⟩
    have hlm : len ≤ m := by rw [hmm]; split <;> omega
    have each : ∀ i, i < len → ∃ z : Nat, w.cell? (a.add i) = some (.int .u8 z) ∧ z < 256 := by
      intro i hi
      obtain ⟨h1, h2⟩ := hx i (by omega)
      obtain ⟨z, hz, _, hw⟩ := DataW.trod_int he h2
      have hz' : V i = .int .u8 z := by simpa using hz
      have hb := bounds_u8 hw
      obtain ⟨k, rfl⟩ := Int.eq_ofNat_of_zero_le hb.1
      exact ⟨k, by rw [h1, hz'], by omega⟩
    by_cases h0 : 0 < len
    · obtain ⟨b, off, spot⟩ := a
      obtain ⟨z, hz, _⟩ := each 0 h0
      have hspot : spot = none := by simpa [Addr.add] using World.cell?_spot hz
      subst hspot
      have each' : ∀ i, i < len → ∃ z : Nat, w.cell? ⟨b, off + i, none⟩ = some (.int .u8 z) ∧ z < 256 := fun i hi => by
        have := each i hi
        rwa [Go.WideShapes.add_plain] at this
      refine ⟨fun i => if i < len then (intOf ((w.cell? ⟨b, off + i, none⟩).getD undef)).toNat else 0, fun _ => ⟨b, off, rfl, ?_, ?_⟩, ?_⟩
      · obtain ⟨z, hz, _⟩ := each' 0 h0
        exact lt_of_cell' hz
      · intro i hi
        obtain ⟨z, hz, _⟩ := each' i hi
        simp [hi, hz, intOf]
      · intro i
        by_cases hc : i < len
        · obtain ⟨z, hz, hw⟩ := each' i hc
          simp only [hc, hz, intOf, if_true, Option.getD_some]; omega
        · rw [if_neg hc]; omega
    · exact ⟨fun _ => 0, fun h => absurd h h0, by simp⟩
end

end Go.Proofs.Ytgpidokklhjfdaa

/-
  A list of structs each of whose fields takes one cell, opened field by field; a list of integers; the asks of the second folder.
-/
namespace Go.Proofs.Ytgpidokklhjfdaa
open Go.ChangeShapes Go.WideShapes Go.ChangeAt Go.RowKit

section
variable {H : Type} {enc : TypeId × Value → H} {P : Program} {w : World} {base : Nat} {spare : Nat → Bool} {held : Bool}

/-- A list of integers. -/
theorem open_ints_at {t e : TypeId} {fuel : Nat} {v : Value} {x : DataW H × List MemPlace} (ht : P.underlying t = some (.slice e)) (he : P.underlying e = some (.int .i64))
    (ce : P.cellsOf e = 1) (h : DataW.trod enc P w base spare held fuel t [v] = some x) :
    ∃ ao cap L, v = .slice ao L.length cap ∧ L.length ≤ 9223372036854775807 ∧ IntsAt w ao L := by
  rcases Go.Deep.open_slice1 ht ce h with ⟨h0, _⟩ | ⟨a, len, cap, m, n, V, D, Pl, hcs, hb, hl, hm, hmm, _, hx⟩
  · exact ⟨none, 0, [], by simpa using h0, by simp, fun h => by simp at h, by simp, by simp⟩
  · unfold maxLen at hm
    have hlm : len ≤ m := by rw [hmm]; split <;> omega
    have each : ∀ i, i < len → ∃ z : Int, w.cell? (a.add i) = some (.int .i64 z) ∧ (Lit.int .i64 z).wf = true := by
      intro i hi
      obtain ⟨h1, h2⟩ := hx i (by omega)
      obtain ⟨z, hz, _, hw⟩ := DataW.trod_int he h2
      have hz' : V i = .int .i64 z := by simpa using hz
      exact ⟨z, by rw [h1, hz'], hw⟩
    obtain ⟨L, hL, hc⟩ : ∃ L : List Int, L.length = len ∧ ∀ i, i < len → w.cell? (a.add i) = some (.int .i64 (L[i]?.getD 0)) ∧ (Lit.int .i64 (L[i]?.getD 0)).wf = true := by
      refine ⟨(List.range len).map (fun i => intOf ((w.cell? (a.add i)).getD undef)), by simp, fun i hi => ?_⟩
      obtain ⟨z, hz, hw⟩ := each i hi
      have : ((List.range len).map (fun i => intOf ((w.cell? (a.add i)).getD undef)))[i]?.getD 0 = z := by simp [hi, hz, intOf]
      rw [this]; exact ⟨hz, hw⟩
    refine ⟨some a, cap, L, by rw [hL]; simpa using hcs, by omega, fun h0 => ?_, fun i => ?_, fun i => ?_⟩
    · obtain ⟨b, off, spot⟩ := a
      have h1 := (hc 0 (by omega)).1
      have hspot : spot = none := by simpa [Addr.add] using World.cell?_spot h1
      subst hspot
      refine ⟨b, off, rfl, ?_, fun i hi => ?_⟩
      · rw [Go.WideShapes.add_plain] at h1; exact lt_of_cell' h1
      · have := (hc i (by omega)).1
        rwa [Go.WideShapes.add_plain] at this
    · by_cases hi : i < len
      · have := bounds_i64 (hc i hi).2; omega
      · rw [List.getElem?_eq_none (by omega)]; simp
    · by_cases hi : i < len
      · have := bounds_i64 (hc i hi).2; omega
      · rw [List.getElem?_eq_none (by omega)]; simp

/-- A list of structs, field by field. -/
theorem open_rows {t e : TypeId} {fs : Array Field} {nf : Nat} {fuel len cap : Nat} {ao : Option Addr} {x : DataW H × List MemPlace} (ht : P.underlying t = some (.slice e)) (he : P.underlying e = some (.struct fs))
    (hn : fs.size = nf) (hpos : 0 < nf) (ce : P.cellsOf e = nf) (hf : ∀ (k : Nat) (f : Field), fs[k]? = some f → f.offset = k ∧ P.cellsOf f.type = 1)
    (h : DataW.trod enc P w base spare held fuel t [.slice ao len cap] = some x) :
    len ≤ 9223372036854775807 ∧ (0 < len → ∃ b off, ao = some ⟨b, off, none⟩ ∧ b < w.heap.size ∧ ∀ i k (f : Field), i < len → fs[k]? = some f → ∃ v n y, w.cell? ⟨b, off + (i * nf + k), none⟩ = some v ∧ DataW.trod enc P w base spare held n f.type [v] = some y) := by
  rcases Go.Deep.open_slice ht h with ⟨h0, _⟩ | ⟨a, len', cap', m, n, D, Pl, hcs, hb, hl, hm, hmm, _, hx⟩
  · simp at h0
    obtain ⟨rfl, rfl, rfl⟩ := h0
    exact ⟨by omega, fun h => by omega⟩
  · simp at hcs
    obtain ⟨rfl, rfl, rfl⟩ := hcs
    unfold maxLen at hm
    refine ⟨by omega, fun h0 => ?_⟩
    have hlm : len ≤ m := by rw [hmm]; split <;> omega
    have each : ∀ i k (f : Field), i < len → fs[k]? = some f → ∃ v n y, w.cell? (a.add (i * nf + k)) = some v ∧ DataW.trod enc P w base spare held n f.type [v] = some y := by
      intro i k f hi hk
      have hkn : k < nf := by rw [← hn]; exact (Array.getElem?_eq_some_iff.1 hk).1
      obtain ⟨cs', h1, h2⟩ := hx i (by omega)
      rw [ce] at h1
      obtain ⟨_, hlen, hcell⟩ := World.cells?_some h1
      obtain ⟨xs, q, _, _, _, hxl, hfs⟩ := DataW.trod_struct he h2
      obtain ⟨o1, o3⟩ := hf k _ hk
      have g := hfs k _ hk
      rw [o1, o3] at g
      have hxk : xs[k]? = some xs[k] := by simp [hxl, hn, hkn]
      rw [hxk] at g
      have e := hcell k hkn
      rw [Go.Deep.add_add] at e
      have h3 : cs'[k]? = some cs'[k] := by simp [hlen, hkn]
      have h4 : List.take 1 (List.drop k cs') = [cs'[k]] := by
        rw [List.drop_eq_getElem_cons (by omega)]; rfl
      rw [h4] at g
      exact ⟨cs'[k], _, _, by rw [e, h3], g⟩
    obtain ⟨b, off, spot⟩ := a
    obtain ⟨f0, hf0⟩ : ∃ f, fs[0]? = some f := ⟨fs[0], by simp [hn, hpos]⟩
    obtain ⟨v, _, _, hz, _⟩ := each 0 0 f0 h0 hf0
    have hspot : spot = none := by simpa [Addr.add] using World.cell?_spot hz
    subst hspot
    refine ⟨b, off, rfl, ?_, fun i k f hi hk => ?_⟩
    · rw [Go.WideShapes.add_plain] at hz; exact lt_of_cell' hz
    · obtain ⟨v, n, y, h1, h2⟩ := each i k f hi hk
      rw [Go.WideShapes.add_plain] at h1
      exact ⟨v, n, y, h1, h2⟩
end

/-- One ask of the second folder. -/
structure AskV where
  is : Bool
  at_ : Option Addr
  cp : Nat
  L : List Int
  n : Int
  k : Int

structure AskOk (w : World) (a : AskV) : Prop where
  ints : IntsAt w a.at_ a.L
  len : a.L.length ≤ 9223372036854775807
  n1 : -9223372036854775808 ≤ a.n
  n2 : a.n ≤ 9223372036854775807
  k1 : -9223372036854775808 ≤ a.k
  k2 : a.k ≤ 9223372036854775807

/-- n asks, in old memory. -/
structure AsksAt (w : World) (ao : Option Addr) (n : Nat) (A : Nat → AskV) : Prop where
  cells : 0 < n → ∃ b off, ao = some ⟨b, off, none⟩ ∧ b < w.heap.size ∧ ∀ i, i < n →
    w.cell? ⟨b, off + i * 4, none⟩ = some (.bool (A i).is) ∧ w.cell? ⟨b, off + i * 4 + 1, none⟩ = some (.slice (A i).at_ (A i).L.length (A i).cp) ∧
    w.cell? ⟨b, off + i * 4 + 2, none⟩ = some (.int .i64 (A i).n) ∧ w.cell? ⟨b, off + i * 4 + 3, none⟩ = some (.int .i64 (A i).k)
  ok : ∀ i, i < n → AskOk w (A i)

section
variable {H : Type} {enc : TypeId × Value → H} {P : Program} {w : World} {base : Nat} {spare : Nat → Bool} {held : Bool}
theorem open_asks2 {t e tb ts ti : TypeId} {f0 f1 f2 f3 : Field} {fuel len cap : Nat} {ao : Option Addr} {x : DataW H × List MemPlace} (ht : P.underlying t = some (.slice e)) (he : P.underlying e = some (.struct #[f0, f1, f2, f3]))
    (ce : P.cellsOf e = 4) (ho : f0.offset = 0 ∧ f1.offset = 1 ∧ f2.offset = 2 ∧ f3.offset = 3) (hty : f0.type = tb ∧ f1.type = ts ∧ f2.type = ti ∧ f3.type = ti)
    (hc : P.cellsOf tb = 1 ∧ P.cellsOf ts = 1 ∧ P.cellsOf ti = 1) (hb : P.underlying tb = some .bool) (hs : P.underlying ts = some (.slice ti)) (hi : P.underlying ti = some (.int .i64))
    (h : DataW.trod enc P w base spare held fuel t [.slice ao len cap] = some x) :
    len ≤ 9223372036854775807 ∧ ∃ A, AsksAt w ao len A := by
  obtain ⟨o0, o1, o2, o3⟩ := ho
  obtain ⟨t0, t1, t2, t3⟩ := hty
  obtain ⟨c0, c1, c2⟩ := hc
  obtain ⟨h1, h2⟩ := open_rows (nf := 4) ht he rfl (by omega) ce (by
    intro k f hk
    rcases k with _ | _ | _ | _ | k
    all_goals (simp at hk; try subst hk)
    · exact ⟨o0, by rw [t0]; exact c0⟩
    · exact ⟨o1, by rw [t1]; exact c1⟩
    · exact ⟨o2, by rw [t2]; exact c2⟩
    · exact ⟨o3, by rw [t3]; exact c2⟩) h
  refine ⟨h1, ?_⟩
  by_cases h0 : 0 < len
  · obtain ⟨b, off, rfl, hbl, hx⟩ := h2 h0
    have each : ∀ i, ∃ a : AskV, i < len → (w.cell? ⟨b, off + i * 4, none⟩ = some (.bool a.is) ∧ w.cell? ⟨b, off + i * 4 + 1, none⟩ = some (.slice a.at_ a.L.length a.cp) ∧
        w.cell? ⟨b, off + i * 4 + 2, none⟩ = some (.int .i64 a.n) ∧ w.cell? ⟨b, off + i * 4 + 3, none⟩ = some (.int .i64 a.k)) ∧ AskOk w a := by
      intro i
      by_cases hil : i < len
      · obtain ⟨v0, n0, y0, g0, r0⟩ := hx i 0 f0 hil rfl
        obtain ⟨v1, n1, y1, g1, r1⟩ := hx i 1 f1 hil rfl
        obtain ⟨v2, n2, y2, g2, r2⟩ := hx i 2 f2 hil rfl
        obtain ⟨v3, n3, y3, g3, r3⟩ := hx i 3 f3 hil rfl
        rw [t0] at r0
        rw [t1] at r1
        rw [t2] at r2
        rw [t3] at r3
        obtain ⟨z0, e0, _⟩ := DataW.trod_bool hb r0
        obtain ⟨ao', cp, L, e1, hl, hI⟩ := open_ints_at hs hi c2 r1
        obtain ⟨z2, e2, _, w2⟩ := DataW.trod_int hi r2
        obtain ⟨z3, e3, _, w3⟩ := DataW.trod_int hi r3
        have e0' : v0 = .bool z0 := by simpa using e0
        have e2' : v2 = .int .i64 z2 := by simpa using e2
        have e3' : v3 = .int .i64 z3 := by simpa using e3
        have b2 := bounds_i64 w2
        have b3 := bounds_i64 w3
        subst e0' e1 e2' e3'
        exact ⟨⟨z0, ao', cp, L, z2, z3⟩, fun _ => ⟨⟨g0, g1, g2, g3⟩, ⟨hI, hl, by simp only; omega, by simp only; omega, by simp only; omega, by simp only; omega⟩⟩⟩
      · exact ⟨⟨false, none, 0, [], 0, 0⟩, fun h => absurd h hil⟩
    obtain ⟨A, hA⟩ : ∃ A : Nat → AskV, ∀ i, i < len → (w.cell? ⟨b, off + i * 4, none⟩ = some (.bool (A i).is) ∧ w.cell? ⟨b, off + i * 4 + 1, none⟩ = some (.slice (A i).at_ (A i).L.length (A i).cp) ∧
        w.cell? ⟨b, off + i * 4 + 2, none⟩ = some (.int .i64 (A i).n) ∧ w.cell? ⟨b, off + i * 4 + 3, none⟩ = some (.int .i64 (A i).k)) ∧ AskOk w (A i) := ⟨fun i => Classical.choose (each i), fun i => Classical.choose_spec (each i)⟩
    exact ⟨A, fun _ => ⟨b, off, rfl, hbl, fun i hi => (hA i hi).1⟩, fun i hi => (hA i hi).2⟩
  · exact ⟨fun _ => ⟨false, none, 0, [], 0, 0⟩, fun h => absurd h h0, fun i hi => by omega⟩
end

end Go.Proofs.Ytgpidokklhjfdaa

/-
  Lists of integers that came in, with what is known of their capacity; a list of such lists.
-/
namespace Go.Proofs.Ytgpidokklhjfdaa
open Go.ChangeShapes Go.WideShapes Go.ChangeAt Go.RowKit

/-- A slice's length and capacity. -/
def capOk (ao : Option Addr) (len cap : Nat) : Prop := len ≤ cap ∧ cap ≤ 9223372036854775807 ∧ (ao = none → cap = 0)
/-- A list of lists of integers in memory, a row of slices, with each one's capacity. -/
structure ListsC (w : World) (ao : Option Addr) (LL : List (List Int)) : Prop where
  cells : 0 < LL.length → ∃ b off, ao = some ⟨b, off, none⟩ ∧ b < w.heap.size ∧ ∀ (i : Nat) (L : List Int), LL[i]? = some L → ∃ xa c, w.cell? ⟨b, off + i, none⟩ = some (.slice xa L.length c) ∧ IntsAt w xa L ∧ capOk xa L.length c
theorem ListsC.keep {w w' : World} {ao : Option Addr} {LL : List (List Int)} (h : ListsC w ao LL) (K : Keep [] w w') : ListsC w' ao LL := by
  refine ⟨fun h0 => ?_⟩
  obtain ⟨b, off, e, hb, hc⟩ := h.cells h0
  refine ⟨b, off, e, Nat.lt_of_lt_of_le hb K.size, fun i L hi => ?_⟩
  obtain ⟨xa, c, h1, h2, h3⟩ := hc i L hi
  exact ⟨xa, c, (K.cell hb (by simp) _).trans h1, h2.keep K (fun _ a _ => by simp), h3⟩
theorem ListsC.nil (w : World) (ao : Option Addr) : ListsC w ao [] := ⟨fun h => by simp at h⟩

section
variable {H : Type} {enc : TypeId × Value → H} {P : Program} {w : World} {base : Nat} {spare : Nat → Bool} {held : Bool}
theorem open_cap {t e : TypeId} {fuel len cap : Nat} {ao : Option Addr} {x : DataW H × List MemPlace} (ht : P.underlying t = some (.slice e)) (ce : P.cellsOf e = 1) (h : DataW.trod enc P w base spare held fuel t [.slice ao len cap] = some x) : capOk ao len cap := by
  rcases Go.Deep.open_slice1 ht ce h with ⟨h0, _⟩ | ⟨a, len', cap', m, n, V, D, Pl, hcs, hb, hl, hm, hmm, _, hx⟩
  · simp at h0
    obtain ⟨rfl, rfl, rfl⟩ := h0
    exact ⟨by omega, by omega, fun _ => rfl⟩
  · simp at hcs
    obtain ⟨rfl, rfl, rfl⟩ := hcs
    unfold maxLen at hm
    exact ⟨hl, by omega, fun e => by cases e⟩
theorem open_listc {t e : TypeId} {k : IntKind} {fuel len cap : Nat} {ao : Option Addr} {x : DataW H × List MemPlace} (ht : P.underlying t = some (.slice e)) (he : P.underlying e = some (.int k))
    (ce : P.cellsOf e = 1) (h : DataW.trod enc P w base spare held fuel t [.slice ao len cap] = some x) :
    len ≤ 9223372036854775807 ∧ ∃ L, ListAt w ao k len L ∧ capOk ao len cap := by
  obtain ⟨h1, L, h2⟩ := open_list ht he ce h
  exact ⟨h1, L, h2, open_cap ht ce h⟩
theorem open_listsc {t e ti : TypeId} {fuel len cap : Nat} {ao : Option Addr} {x : DataW H × List MemPlace} (ht : P.underlying t = some (.slice e)) (he : P.underlying e = some (.slice ti)) (hi : P.underlying ti = some (.int .i64))
    (ce : P.cellsOf e = 1) (ci : P.cellsOf ti = 1) (h : DataW.trod enc P w base spare held fuel t [.slice ao len cap] = some x) :
    len ≤ 9223372036854775807 ∧ ∃ LL, LL.length = len ∧ ListsC w ao LL := by
  rcases Go.Deep.open_slice1 ht ce h with ⟨h0, _⟩ | ⟨a, len', cap', m, n, V, D, Pl, hcs, hb, hl, hm, hmm, _, hx⟩
  · simp at h0
    obtain ⟨rfl, rfl, rfl⟩ := h0
    exact ⟨by omega, [], rfl, ListsC.nil _ _⟩
  · simp at hcs
    obtain ⟨rfl, rfl, rfl⟩ := hcs
    unfold maxLen at hm
    refine ⟨by omega, ?_⟩
    have hlm : len ≤ m := by rw [hmm]; split <;> omega
    have each : ∀ i, ∃ L : List Int, i < len → ∃ xa c, w.cell? (a.add i) = some (.slice xa L.length c) ∧ IntsAt w xa L ∧ capOk xa L.length c := by
      intro i
      by_cases hil : i < len
      · obtain ⟨h1, h2⟩ := hx i (by omega)
        obtain ⟨xa, c, L, e1, _, hI⟩ := open_ints_at he hi ci h2
        rw [e1] at h2
        exact ⟨L, fun _ => ⟨xa, c, by rw [h1, e1], hI, open_cap he ci h2⟩⟩
      · exact ⟨[], fun h => absurd h hil⟩
    obtain ⟨LS, hLS⟩ : ∃ LS : Nat → List Int, ∀ i, i < len → ∃ xa c, w.cell? (a.add i) = some (.slice xa (LS i).length c) ∧ IntsAt w xa (LS i) ∧ capOk xa (LS i).length c := ⟨fun i => Classical.choose (each i), fun i hi => Classical.choose_spec (each i) hi⟩
    clear each
    refine ⟨(List.range len).map LS, by simp, ⟨fun h0 => ?_⟩⟩
    have h0' : 0 < len := by simpa using h0
    obtain ⟨b, off, spot⟩ := a
    obtain ⟨xa0, c0, h1, _⟩ := hLS 0 h0'
    have hspot : spot = none := by simpa [Addr.add] using World.cell?_spot h1
    subst hspot
    refine ⟨b, off, rfl, ?_, fun i L hi => ?_⟩
    · rw [Go.WideShapes.add_plain] at h1; exact lt_of_cell2 h1
    · have hil : i < len := by
        have := (List.getElem?_eq_some_iff.1 hi).1
        simpa using this
      have e1 : L = LS i := by simpa [hil] using hi.symm
      obtain ⟨xa, c, h2, h3⟩ := hLS i hil
      rw [Go.WideShapes.add_plain] at h2
      rw [e1]
      exact ⟨xa, c, h2, h3⟩
end

end Go.Proofs.Ytgpidokklhjfdaa

/-
  More of memory in parts: the first part's block is another, a new block, calls on the first part.
-/
namespace Go.Proofs.Ytgpidokklhjfdaa
open Go.RowKit

theorem hid {p : Prop} (h : p) : Hid p := h
section
variable {w0 w : World} {F0 : List Nat}
/-- The first part's block is another. -/
theorem Has.setB {A : Asn} {w' : World} {b : Nat} {o o' : Obj} (h : Has w0 F0 ((blockA b o).star A) w) (K : Keep [b] w w') (ho : w'.heap[b]? = some o') : Has w0 F0 ((blockA b o').star A) w' :=
  Has.left h (fun F hF => ⟨[b], ⟨rfl, ho⟩, by rw [hF.1]; exact K, fun k e => by rw [hF.1]; exact .inl e⟩)
theorem Has.swap {A B C : Asn} (h : Has w0 F0 ((A.star B).star C) w) : Has w0 F0 ((A.star C).star B) w :=
  (h.assoc.map (fun _ g => star_mono (fun _ g => star_comm g) g)).assoc'
/-- A block that is new. -/
theorem Has.newB {A : Asn} (h : Has w0 F0 A w) (o : Obj) : Has w0 F0 (A.star (blockA w.heap.size o)) (w.alloc o) :=
  h.more (Keep.alloc [] w o) (G := [w.heap.size]) ⟨rfl, heap_alloc_new w o⟩ (fun k hk => by simp at hk; omega)
/-- A call that turns the first part into one that it tells of. -/
theorem has_left_ex {X : Type} {P : Program} {f : FuncId} {args : Array Value} {A B : Asn} {A' : X → Asn} {Q : X → Ending → World → Prop} (h : Has w0 F0 (A.star B) w) (hc : ∀ F, Has w F A w → Calls P f args w fun e w' => ∃ x, Q x e w' ∧ Has w F (A' x) w') :
    Calls P f args w fun e w' => ∃ x, Q x e w' ∧ Has w0 F0 ((A' x).star B) w' := by
  obtain ⟨F, ⟨F1, F2, hF, h1, h2, hd⟩, u⟩ := h
  refine (hc F1 (Has.start h1)).mono ?_
  rintro e w' ⟨x, hq, F', g1, g2⟩
  obtain ⟨F'', h5, h6⟩ := star_left hF hd h2 g1 g2
  exact ⟨x, hq, F'', h5, u.trans h6⟩
/-- A call that turns nothing of the first part. -/
theorem has_fst {P : Program} {f : FuncId} {args : Array Value} {A B : Asn} {Q : Ending → World → Prop} (h : Has w0 F0 (A.star B) w) (hc : Has w0 F0 A w → Calls P f args w fun e w' => Q e w' ∧ Keep [] w w') :
    Calls P f args w fun e w' => Q e w' ∧ Has w0 F0 (A.star B) w' := by
  refine (hc h.fst).mono ?_
  rintro e w' ⟨hq, hK⟩
  exact ⟨hq, h.keep0 hK⟩
end

end Go.Proofs.Ytgpidokklhjfdaa
