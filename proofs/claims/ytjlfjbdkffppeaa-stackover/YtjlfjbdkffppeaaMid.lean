/-
  A list of integers that begins at some place of a row of one's own, and has room behind it; what append leaves of it; parts of memory in a row. It speaks of no program.
-/
import Derived.Test.YtjlfjbdkffppeaaSep
import Derived.Test.YtjlfjbdkffppeaaOwn
import Derived.Test.YtjlfjbdkffppeaaTwin
import Derived.Test.YtjlfjbdkffppeaaPRow
import Derived.ArgAppend
import Derived.Deep.OwnRows
namespace Go.Proofs.Ytjlfjbdkffppeaa
open Go.RowKit

/-- v is a list that is one's own: it holds L, and what lies behind it up to its capacity is free. -/
def IsMid (w : World) (t : TypeId) (v : Value) (L : List Int) : Prop :=
  (v = .slice none 0 0 ∧ L = []) ∨ ∃ g o cap cur, v = .slice (some ⟨g, o, none⟩) L.length cap ∧ w.heap[g]? = some (.cells cur t (0, 0)) ∧ L.length ≤ cap ∧ cap ≤ maxLen ∧ o + cap ≤ cur.size ∧ ∀ i, i < L.length → cur[o + i]? = some (.int .i64 (L[i]?.getD 0))
def inR (L : List Int) : Prop := ∀ i : Nat, -9223372036854775808 ≤ L[i]?.getD 0 ∧ L[i]?.getD 0 ≤ 9223372036854775807

theorem IsMid.keep {S : List Nat} {w w' : World} {t : TypeId} {v : Value} {L : List Int} (h : IsMid w t v L) (K : Keep S w w') (hS : ∀ k, v.ownBlock = some k → k ∉ S) : IsMid w' t v L := by
  rcases h with h | ⟨g, o, cap, cur, h1, h2, h3⟩
  · exact .inl h
  · subst h1; exact .inr ⟨g, o, cap, cur, rfl, K.blk h2 (hS g rfl), h3⟩
theorem IsMid.lt {w : World} {t : TypeId} {v : Value} {L : List Int} (h : IsMid w t v L) : ∀ k, v.ownBlock = some k → k < w.heap.size := by
  intro k hk
  rcases h with ⟨h, _⟩ | ⟨g, o, cap, cur, h1, h2, _⟩
  · subst h; cases hk
  · subst h1; cases hk; exact lt_of_block h2
theorem IsMid.ints {w : World} {t : TypeId} {la : Option Addr} {n c : Nat} {L : List Int} (h : IsMid w t (.slice la n c) L) (hb : inR L) : IntsAt w la L ∧ L.length = n ∧ (la = none → c = 0) ∧ n ≤ c := by
  rcases h with ⟨h, rfl⟩ | ⟨g, o, cap, cur, h1, h2, h3, h4, h5, h6⟩
  · cases h; exact ⟨IntsAt.nil _ _, rfl, fun _ => rfl, Nat.le_refl _⟩
  · cases h1
    refine ⟨⟨fun _ => ⟨g, o, rfl, lt_of_block h2, fun i hi => ?_⟩, fun i => (hb i).1, fun i => (hb i).2⟩, rfl, (fun e => by cases e), h3⟩
    simp [World.cell?, h2, h6 i hi]
theorem IsMid.form {w : World} {t : TypeId} {v : Value} {L : List Int} (h : IsMid w t v L) : ∃ la c, v = .slice la L.length c := by
  rcases h with ⟨rfl, rfl⟩ | ⟨g, o, cap, cur, h1, _⟩
  · exact ⟨none, 0, rfl⟩
  · exact ⟨_, _, h1⟩
theorem IsMid.nil (w : World) (t : TypeId) : IsMid w t (.slice none 0 0) [] := .inl ⟨rfl, rfl⟩
/-- A row that append made. -/
theorem own_mid {w : World} {base : Nat} {t : TypeId} {v : Value} {n : Nat} {L : List Int} (h : w.ownsRow base t 1 v n (ints L)) : IsMid w t v L := by
  have hn : n = L.length := by have := h.1; rw [ints_length, Nat.mul_one] at this; exact this.symm
  rcases h.2 with ⟨h1, h2⟩ | ⟨g, cap, cur, h1, _, h3, h4, h5, h6, h7⟩
  · exact .inl ⟨h1, List.length_eq_zero_iff.1 (by omega)⟩
  · refine .inr ⟨g, 0, cap, cur, by rw [h1, hn], h3, by omega, h5, by omega, fun i hi => ?_⟩
    have e := ints_get L i hi
    rw [← h7, List.getElem?_take, if_pos (by omega)] at e
    rw [Nat.zero_add]
    simpa using e
/-- The first one goes. -/
theorem IsMid.tail {w : World} {t : TypeId} {g o cap : Nat} {x : Int} {L : List Int} (h : IsMid w t (.slice (some ⟨g, o, none⟩) (L.length + 1) cap) (x :: L)) :
    IsMid w t (.slice (if cap = 1 then some ⟨g, o, none⟩ else some ⟨g, o + 1, none⟩) L.length (cap - 1)) L := by
  rcases h with ⟨h, _⟩ | ⟨g', o', cap', cur, h1, h2, h3, h4, h5, h6⟩
  · cases h
  · cases h1
    rw [List.length_cons] at h3 h6
    by_cases e : cap = 1
    · rw [if_pos e]
      exact .inr ⟨g, o, cap - 1, cur, rfl, h2, by omega, by omega, by omega, fun i hi => by omega⟩
    · rw [if_neg e]
      refine .inr ⟨g, o + 1, cap - 1, cur, rfl, h2, by omega, by omega, by omega, fun i hi => ?_⟩
      have := h6 (i + 1) (by omega)
      rw [show o + 1 + i = o + (i + 1) by omega, this]; simp

theorem lt_of_cell2' {w : World} {b o : Nat} {v : Value} (h : w.cell? ⟨b, o, none⟩ = some v) : b < w.heap.size := by
  rcases Nat.lt_or_ge b w.heap.size with h' | h'
  · exact h'
  · simp [World.cell?, Array.getElem?_eq_none h'] at h
theorem snoc_get (L : List Int) (y : Int) (i : Nat) (h : i < L.length) : (L ++ [y])[i]?.getD 0 = L[i]?.getD 0 := by rw [List.getElem?_append_left h]
/-- What append of one integer comes to. -/
theorem run_append_mid {P : Program} (w : World) (t ty e : TypeId) (i : TypeInfo) (ht : P.underlying t = some (.slice e)) (hi : P.info? e = some i ∧ i.zero = some (.int .i64 0) ∧ i.size = 1 ∧ i.bytes = 8)
    (v : Value) (L : List Int) (hv : IsMid w e v L) (ad : Addr) (y : Int) (c : Nat) (hy : w.cell? ad = some (.int .i64 y)) (ha : ad.add 0 = ad) (hl : L.length ≤ 1000000) :
    ∃ v' w', (Builtin.append_ #[t, t] ty #[v, .slice (some ad) 1 c]).run P w = .ok v' w' ∧ IsMid w' e v' (L ++ [y]) ∧ Keep v.ownBlock.toList w w' ∧ ∀ k, v'.ownBlock = some k → v.ownBlock = some k ∨ w.heap.size ≤ k := by
  obtain ⟨h1, h2, h3, h4⟩ := hi
  have hnews : ∀ j u, (ints [y])[j]? = some u → w.cell? (ad.add j) = some u := by
    intro j u hu
    rcases j with _ | j
    · rw [ha, hy]; simpa [ints] using hu
    · simp [ints] at hu
  rcases hv with ⟨rfl, rfl⟩ | ⟨g, o, cap, cur, rfl, hg, hlc, hcm, hsz, hcur⟩
  · obtain ⟨v', w', hrun, hown, hgr, _⟩ := run_append_own (P := P) w w.heap.size t ty e i (.int .i64 0) 1 8 ht h1 h2 h3 h4 rfl (by decide) (.slice none 0 0) 0 [] (World.ownsRow_nil w _ e 1) ad 1 c (ints [y]) (by simp [ints]) hnews (ints_one _) (by unfold maxLen; omega) (by omega) (Nat.le_refl _)
    rw [show ([] : List Value) ++ ints [y] = ints ([] ++ [y]) from rfl] at hown
    refine ⟨v', w', hrun, own_mid hown, Keep.ofGrown hgr, fun k hk => .inr (own_block hown k hk)⟩
  · by_cases hroom : L.length + 1 ≤ cap
    · have hcell : o + L.length < cur.size := by omega
      refine ⟨_, _, run_append_room_cells (P := P) w t ty e i ht h1 g o L.length cap ad 1 c (ints [y]) (by rw [h3]; simp [ints]) hnews (ints_one _) hroom ?_ ?_, ?_, ?_, ?_⟩
      · intro j hj
        obtain rfl : j = 0 := by simpa [ints] using hj
        rw [h3]
        simp [World.cell?, hg, hcell]
      · intro j hj
        simp [World.frozen?, hg]
      · have hset := heap_setCell_same w g (o + L.length) cur e (.int .i64 y) hg
        refine .inr ⟨g, o, cap, cur.setIfInBounds (o + L.length) (.int .i64 y), by simp, ?_, by simpa using hroom, hcm, by simpa using hsz, fun j hj => ?_⟩
        · rw [h3, Nat.mul_one]; simpa [World.setCells, ints] using hset
        · rw [List.length_append, List.length_singleton] at hj
          by_cases e : j = L.length
          · subst e
            rw [Array.getElem?_setIfInBounds_self_of_lt hcell]; simp
          · rw [Array.getElem?_setIfInBounds_ne (by omega), snoc_get L y j (by omega)]
            exact hcur j (by omega)
      · rw [h3, Nat.mul_one]
        have := Keep.setCell (S := [g]) w (a := ⟨g, o + L.length, none⟩) (.int .i64 y) (by simp)
        simpa [World.setCells, ints, Value.ownBlock] using this
      · intro k hk; exact .inl (by simpa [Value.ownBlock] using hk)
    · obtain ⟨v', w', hrun, hown, hgr⟩ := run_append_arg_grows (P := P) w t ty e i (.int .i64 0) 1 8 ht h1 h2 h3 h4 rfl (by decide) ⟨g, o, none⟩ L.length cap (ints L) (by rw [ints_length, Nat.mul_one]) (by
        intro j u hu
        have hj : j < L.length := by
          rcases Nat.lt_or_ge j L.length with hj | hj
          · exact hj
          · rw [List.getElem?_eq_none (by rw [ints_length]; exact hj)] at hu; cases hu
        rw [ints_get L j hj] at hu
        rw [Addr.add_lit]
        simp [World.cell?, hg, hcur j hj]
        exact Option.some.inj hu) ad 1 c (ints [y]) (by simp [ints]) hnews (by omega) (by unfold maxLen; omega) (by omega)
      rw [ints_app] at hown
      refine ⟨v', w', hrun, own_mid hown, (Keep.ofGrown hgr).mono (by simp), fun k hk => .inr (own_block hown k hk)⟩

/-- For the walk. -/
theorem wpList_append_mid {P : Program} (w : World) {ops : Array Oper} {rest : List Oper} {o : Oper} {a : Act} {Q : Exit → Act → World → Prop} (hgd : o.guard = none) (s x : Operand) (t : TypeId)
    (ho : o.op = .call { callee := .builtin .append, args := #[s, x], argTypes := #[t, t] }) (e : TypeId) (i : TypeInfo) (ht : P.underlying t = some (.slice e)) (hi : P.info? e = some i ∧ i.zero = some (.int .i64 0) ∧ i.size = 1 ∧ i.bytes = 8)
    (v : Value) (L : List Int) (hs : a.eval s = v) (hv : IsMid w e v L) (b : Nat) (y : Int) (c : Nat) (hx : a.eval x = .slice (some ⟨b, 0, none⟩) 1 c) (hy : w.cell? ⟨b, 0, none⟩ = some (.int .i64 y)) (hl : L.length ≤ 1000000)
    (h : ∀ v' w', IsMid w' e v' (L ++ [y]) → Keep v.ownBlock.toList w w' → (∀ k, v'.ownBlock = some k → v.ownBlock = some k ∨ w.heap.size ≤ k) → wpList P ops Q rest (a.put o.dst v') w') : wpList P ops Q (o :: rest) a w := by
  refine wpList_plain hgd fun K hK' => ?_
  obtain ⟨v', w', hrun, r1, r2, r3⟩ := run_append_mid (P := P) w t o.type e i ht hi v L hv ⟨b, 0, none⟩ y c hy (by simp [Addr.add]) hl
  unfold Oper.wp
  simp [execOp, ho, resolve, invoke, builtin, hs, hx, hrun, Result.andThen]
  exact hK' _ _ (h v' w' r1 r2 r3)
/-- At a step of a region that draws. -/
theorem step_append_mid {P : Program} (w : World) {ops : Array Oper} {o : Oper} {a : Act} {K : Act → World → Prop} {Q : Exit → Act → World → Prop} {E : Prop} (hgd : o.guard = none) (s x : Operand) (t : TypeId)
    (ho : o.op = .call { callee := .builtin .append, args := #[s, x], argTypes := #[t, t] }) (e : TypeId) (i : TypeInfo) (ht : P.underlying t = some (.slice e)) (hi : P.info? e = some i ∧ i.zero = some (.int .i64 0) ∧ i.size = 1 ∧ i.bytes = 8)
    (v : Value) (L : List Int) (hs : a.eval s = v) (hv : IsMid w e v L) (b : Nat) (y : Int) (c : Nat) (hx : a.eval x = .slice (some ⟨b, 0, none⟩) 1 c) (hy : w.cell? ⟨b, 0, none⟩ = some (.int .i64 y)) (hl : L.length ≤ 1000000)
    (h : ∀ v' w', IsMid w' e v' (L ++ [y]) → Keep v.ownBlock.toList w w' → (∀ k, v'.ownBlock = some k → v.ownBlock = some k ∨ w.heap.size ≤ k) → K (a.put o.dst v') w') :
    if Region.wanted o (yielded ops a.tmps) = true then Oper.wp P o a w K Q else E := by
  have hw : Region.wanted o (yielded ops a.tmps) = true := by simp [Region.wanted, hgd]
  rw [if_pos hw]
  obtain ⟨v', w', hrun, r1, r2, r3⟩ := run_append_mid (P := P) w t o.type e i ht hi v L hv ⟨b, 0, none⟩ y c hy (by simp [Addr.add]) hl
  unfold Oper.wp
  simp [execOp, ho, resolve, invoke, builtin, hs, hx, hrun, Result.andThen]
  exact h v' w' r1 r2 r3

/-! ### As parts of memory -/
def midA (t : TypeId) (v : Value) (L : List Int) : Asn where
  at' w F := F = v.ownBlock.toList ∧ IsMid w t v L
  keep := fun h K hS => ⟨h.1, h.2.keep K (fun k e => hS k (by rw [h.1, e]; simp))⟩
  lt := fun h k hk => by
    rw [h.1] at hk
    exact h.2.lt k (by simpa using hk)
/-- A row of values of one cell each, of one's own. -/
def vecA (t : TypeId) (va : Option Addr) (vc : Nat) (vs : List Value) : Asn where
  at' w F := F = va.toList.map (·.block) ∧ w.ownsRow 0 t 1 (.slice va vs.length vc) vs.length vs ∧ ∀ a, va = some a → a.block < w.heap.size
  keep := fun h K hS => ⟨h.1, own_keepS h.2.1 K (fun y e => hS _ (by rw [h.1, e]; simp)), fun a e => Nat.lt_of_lt_of_le (h.2.2 a e) K.size⟩
  lt := fun h k hk => by
    rw [h.1] at hk
    simp at hk
    obtain ⟨a, e, rfl⟩ := hk
    exact h.2.2 a e
def emptyA : Asn where
  at' _ F := F = []
  keep := fun h _ _ => h
  lt := fun h k hk => by rw [h] at hk; cases hk
/-- A part one of whose cells is known. -/
def Asn.pin (A : Asn) (b j : Nat) (v : Value) : Asn where
  at' w F := A.at' w F ∧ b ∈ F ∧ w.cell? ⟨b, j, none⟩ = some v
  keep := fun h K hS => ⟨A.keep h.1 K hS, h.2.1, (K.cell (A.lt h.1 _ h.2.1) (hS _ h.2.1) _).trans h.2.2⟩
  lt := fun h => A.lt h.1
/-- Parts in a row, no two of which share a block. -/
def rowA : List Asn → Asn
  | [] => emptyA
  | A :: l => A.star (rowA l)
theorem star_mono {A B B' : Asn} {w : World} {F : List Nat} (g : ∀ F, B.at' w F → B'.at' w F) (h : (A.star B).at' w F) : (A.star B').at' w F := by
  obtain ⟨F1, F2, hF, h1, h2, hd⟩ := h
  exact ⟨F1, F2, hF, h1, g F2 h2, hd⟩
theorem rowA_get {w : World} {A : Asn} : ∀ (l : List Asn) (i : Nat) (F : List Nat), l[i]? = some A → (rowA l).at' w F → (A.star (rowA (l.eraseIdx i))).at' w F
  | [], i, F, e, _ => by simp at e
  | B :: l, 0, F, e, h => by
    simp at e
    subst e
    exact h
  | B :: l, i + 1, F, e, h => by
    have h1 : (B.star (A.star (rowA (l.eraseIdx i)))).at' w F := star_mono (fun F g => rowA_get l i F (by simpa using e) g) h
    have h2 := star_assoc' h1
    have h3 : ((A.star B).star (rowA (l.eraseIdx i))).at' w F := star_comm (star_mono (fun F g => star_comm g) (star_comm h2))
    exact star_assoc h3
theorem rowA_put {w : World} {A : Asn} : ∀ (l : List Asn) (i : Nat) (F : List Nat), i < l.length → (A.star (rowA (l.eraseIdx i))).at' w F → (rowA (l.set i A)).at' w F
  | [], i, F, e, _ => by simp at e
  | B :: l, 0, F, e, h => h
  | B :: l, i + 1, F, e, h => by
    have h0 : (A.star (B.star (rowA (l.eraseIdx i)))).at' w F := h
    have h1 := star_assoc' h0
    have h2 : ((B.star A).star (rowA (l.eraseIdx i))).at' w F := star_comm (star_mono (fun F g => star_comm g) (star_comm h1))
    exact star_mono (fun F g => rowA_put l i F (by simpa using e) g) (star_assoc h2)
theorem rowA_snoc {w : World} {A : Asn} : ∀ (l : List Asn) (F : List Nat), ((rowA l).star A).at' w F → (rowA (l ++ [A])).at' w F
  | [], F, h => by
    obtain ⟨F1, F2, hF, h1, h2, hd⟩ := h
    exact ⟨F2, F1, fun k => (hF k).trans Or.comm, h2, h1, fun k e e' => hd k e' e⟩
  | B :: l, F, h => star_mono (fun F g => rowA_snoc l F g) (star_assoc h)
/-- One of them is turned. -/
theorem Has.inRow {w0 w w' : World} {F0 : List Nat} {l : List Asn} {i : Nat} {A A' : Asn} (h : Has w0 F0 (rowA l) w) (e : l[i]? = some A) (g : ∀ F, A.at' w F → Has w F A' w') : Has w0 F0 (rowA (l.set i A')) w' := by
  have hi : i < l.length := by
    rcases Nat.lt_or_ge i l.length with hi | hi
    · exact hi
    · rw [List.getElem?_eq_none hi] at e; cases e
  exact (Has.left (h.map (fun F h => rowA_get l i F e h)) g).map (fun F h => rowA_put l i F hi h)

end Go.Proofs.Ytjlfjbdkffppeaa
