/-
  The builtin append of many integers onto a list that is one's own, and has room behind it; such a list, cut. It speaks of no program.
-/
import Derived.Test.YtjlfjbdkffppeaaMid
namespace Go.Proofs.Ytjlfjbdkffppeaa
open Go.RowKit

theorem cells_put (g : Nat) (t : TypeId) : ∀ (vs : List Value) (o : Nat) (w : World) (cur : Array Value), w.heap[g]? = some (.cells cur t (0, 0)) → ∃ cur', (w.setCells g o vs).heap[g]? = some (.cells cur' t (0, 0)) ∧ cur'.size = cur.size ∧ (∀ k, k < o → cur'[k]? = cur[k]?) ∧ ∀ k, k < vs.length → o + k < cur.size → cur'[o + k]? = vs[k]?
  | [], o, w, cur, h => ⟨cur, h, rfl, fun _ _ => rfl, fun k hk => by simp at hk⟩
  | v :: vs, o, w, cur, h => by
    obtain ⟨cur', e1, e2, e3, e4⟩ := cells_put g t vs (o + 1) (w.setCell ⟨g, o, none⟩ v) _ (heap_setCell_same w g o cur t v h)
    refine ⟨cur', e1, by rw [e2]; simp, fun k hk => ?_, fun k hk hs => ?_⟩
    · rw [e3 k (by omega), Array.getElem?_setIfInBounds_ne (by omega)]
    · rcases k with _ | k
      · rw [Nat.add_zero] at hs ⊢
        rw [e3 o (by omega), Array.getElem?_setIfInBounds_self_of_lt hs]; rfl
      · rw [show o + (k + 1) = o + 1 + k by omega, e4 k (by simpa using hk) (by simp; omega)]; rfl
theorem keep_cells (g : Nat) : ∀ (vs : List Value) (o : Nat) (w : World), Keep [g] w (w.setCells g o vs)
  | [], _, w => Keep.refl _ _
  | v :: vs, o, w => (Keep.setCell (S := [g]) w (a := ⟨g, o, none⟩) v (by simp)).trans (keep_cells g vs (o + 1) _)
theorem IsMid.capR {w : World} {t : TypeId} {la : Option Addr} {n c : Nat} {L : List Int} (h : IsMid w t (.slice la n c) L) : c ≤ maxLen := by
  rcases h with ⟨e, _⟩ | ⟨_, _, _, _, e, _, _, e3, _⟩
  · cases e; exact Nat.zero_le _
  · cases e; exact e3
theorem IsMid.le {w : World} {t : TypeId} {la : Option Addr} {n c : Nat} {L : List Int} (h : IsMid w t (.slice la n c) L) : L.length = n ∧ n ≤ c := by
  rcases h with ⟨e, rfl⟩ | ⟨_, _, _, _, e, _, e2, _⟩
  · cases e; exact ⟨rfl, Nat.le_refl _⟩
  · cases e; exact ⟨rfl, e2⟩
theorem IsMid.some {w : World} {t : TypeId} {la : Option Addr} {n c : Nat} {L : List Int} (h : IsMid w t (.slice la n c) L) (h0 : 0 < n) : ∃ g o, la = some ⟨g, o, none⟩ := by
  rcases h with ⟨e, rfl⟩ | ⟨g, o, _, _, e, _⟩
  · cases e; omega
  · cases e; exact ⟨g, o, rfl⟩
theorem mid_cells {w : World} {t : TypeId} {g o n cap : Nat} {L : List Int} (h : IsMid w t (.slice (some ⟨g, o, none⟩) n cap) L) {i : Nat} (hi : i < n) : w.cell? ⟨g, o + i, none⟩ = some (.int .i64 (L[i]?.getD 0)) ∧ w.frozen? ⟨g, o + i, none⟩ = false := by
  rcases h with ⟨h, _⟩ | ⟨g', o', cap', cur, h1, h2, h3, h4, h5, h6⟩
  · cases h
  · cases h1
    exact ⟨by simp [World.cell?, h2, h6 i hi], by simp [World.frozen?, h2]⟩
/-- One place of a list of one's own is put. -/
theorem mid_set {w : World} {t : TypeId} {g o n cap : Nat} {L : List Int} (h : IsMid w t (.slice (some ⟨g, o, none⟩) n cap) L) {i : Nat} (hi : i < n) (x : Int) : IsMid (w.setCell ⟨g, o + i, none⟩ (.int .i64 x)) t (.slice (some ⟨g, o, none⟩) n cap) (L.set i x) := by
  rcases h with ⟨h, _⟩ | ⟨g', o', cap', cur, h1, h2, h3, h4, h5, h6⟩
  · cases h
  · cases h1
    have hc : o + i < cur.size := by omega
    have hset := heap_setCell_same w g (o + i) cur t (.int .i64 x) h2
    refine .inr ⟨g, o, cap, cur.setIfInBounds (o + i) (.int .i64 x), by simp, hset, by simpa using h3, h4, by simpa using h5, fun j hj => ?_⟩
    rw [List.length_set] at hj
    by_cases e : j = i
    · subst e
      rw [Array.getElem?_setIfInBounds_self_of_lt hc]; simp [hi]
    · rw [Array.getElem?_setIfInBounds_ne (by omega), h6 j hj, List.getElem?_set_ne (by omega)]
/-- A list of one's own, cut: what lies behind the cut may be anything. -/
theorem mid_clear {w : World} {t : TypeId} {g o n cap : Nat} {L : List Int} (h : IsMid w t (.slice (some ⟨g, o, none⟩) n cap) L) {i : Nat} (hi : i ≤ n) (vs : List Value) : IsMid (w.setCells g (o + i) vs) t (.slice (some ⟨g, o, none⟩) i cap) (L.take i) := by
  rcases h with ⟨h, _⟩ | ⟨g', o', cap', cur, h1, h2, h3, h4, h5, h6⟩
  · cases h
  · cases h1
    obtain ⟨cur', e1, e2, e3, _⟩ := cells_put g t vs (o + i) w cur h2
    refine .inr ⟨g, o, cap, cur', by rw [List.length_take, Nat.min_eq_left hi], e1, by rw [List.length_take]; omega, h4, by rw [e2]; exact h5, fun j hj => ?_⟩
    rw [List.length_take] at hj
    rw [e3 _ (by omega), h6 j (by omega), List.getElem?_take, if_pos (by omega)]
theorem IsMid.cut {w : World} {t : TypeId} {la : Option Addr} {n c : Nat} {L : List Int} (h : IsMid w t (.slice la n c) L) {i : Nat} (hi : i ≤ n) : IsMid w t (.slice la i c) (L.take i) := by
  rcases h with ⟨h, rfl⟩ | ⟨g, o, cap, cur, h1, h2⟩
  · cases h
    obtain rfl : i = 0 := by omega
    exact .inl ⟨rfl, rfl⟩
  · cases h1
    exact mid_clear (L := L) (.inr ⟨g, o, _, cur, rfl, h2⟩) hi []
theorem midA_cut {t : TypeId} {la : Option Addr} {n c i : Nat} {L : List Int} {w : World} {F : List Nat} (h : (midA t (.slice la n c) L).at' w F) (hi : i ≤ n) : (midA t (.slice la i c) (L.take i)).at' w F :=
  ⟨h.1.trans (by cases la <;> rfl), IsMid.cut h.2 hi⟩
/-- What append of many integers comes to. -/
theorem run_append_mids {P : Program} (w : World) (t ty e : TypeId) (i : TypeInfo) (ht : P.underlying t = some (.slice e)) (hi : P.info? e = some i ∧ i.zero = some (.int .i64 0) ∧ i.size = 1 ∧ i.bytes = 8)
    (v : Value) (L : List Int) (hv : IsMid w e v L) (xa : Option Addr) (m c : Nat) (M : List Int) (hM : IntsAt w xa M) (hm : M.length = m) (hl : L.length + m ≤ 1000000) :
    ∃ v' w', (Builtin.append_ #[t, t] ty #[v, .slice xa m c]).run P w = .ok v' w' ∧ IsMid w' e v' (L ++ M) ∧ Keep v.ownBlock.toList w w' ∧ ∀ k, v'.ownBlock = some k → v.ownBlock = some k ∨ w.heap.size ≤ k := by
  cases xa with
  | none =>
    have h0 : M = [] := by
      rcases Nat.eq_zero_or_pos M.length with h0 | h0
      · exact List.length_eq_zero_iff.1 h0
      · obtain ⟨_, _, e, _⟩ := hM.cells h0; cases e
    subst h0
    subst hm
    refine ⟨v, w, ?_, by rw [List.append_nil]; exact hv, Keep.refl _ _, fun k e => .inl e⟩
    rcases hv with ⟨rfl, _⟩ | ⟨g, o, cap, cur, rfl, _, hnc, _⟩
    · simp [Builtin.append_, run_underlying ht, sizeOf, typeInfo, hi.1, Builtin.lenOf, Builtin.firstCells]
    · simp [Builtin.append_, run_underlying ht, sizeOf, typeInfo, hi.1, Builtin.lenOf, Builtin.firstCells, hnc, storeCells]
  | some ad =>
    obtain ⟨h1, h2, h3, h4⟩ := hi
    have hnews : ∀ j u, (ints M)[j]? = some u → w.cell? (ad.add j) = some u := by
      intro j u hu
      have hj : j < M.length := by
        rcases Nat.lt_or_ge j M.length with hj | hj
        · exact hj
        · rw [List.getElem?_eq_none (by rw [ints_length]; exact hj)] at hu; cases hu
      obtain ⟨b, off, e1, _, hcell⟩ := hM.cells (by omega)
      cases e1
      rw [ints_get M j hj] at hu
      rw [Go.WideShapes.add_plain, hcell j hj]; exact hu
    have hlen : (ints M).length = m * 1 := by rw [ints_length]; omega
    rcases hv with ⟨rfl, rfl⟩ | ⟨g, o, cap, cur, rfl, hg, hlc, hcm, hsz, hcur⟩
    · obtain ⟨v', w', hrun, hown, hgr, _⟩ := run_append_own (P := P) w w.heap.size t ty e i (.int .i64 0) 1 8 ht h1 h2 h3 h4 rfl (by decide) (.slice none 0 0) 0 [] (World.ownsRow_nil w _ e 1) ad m c (ints M) hlen hnews (ints_one _) (by unfold maxLen; simp at hl; omega) (by simp at hl; omega) (Nat.le_refl _)
      rw [show ([] : List Value) ++ ints M = ints ([] ++ M) from rfl] at hown
      refine ⟨v', w', hrun, own_mid hown, Keep.ofGrown hgr, fun k hk => .inr (own_block hown k hk)⟩
    · by_cases hroom : L.length + m ≤ cap
      · obtain ⟨cur', e1, e2, e3, e4⟩ := cells_put g e (ints M) (o + L.length) w cur hg
        refine ⟨_, _, run_append_room_cells (P := P) w t ty e i ht h1 g o L.length cap ad m c (ints M) (by rw [h3]; exact hlen) hnews (ints_one _) hroom ?_ ?_, ?_, ?_, ?_⟩
        · intro j hj
          rw [hlen] at hj
          have : o + L.length + j < cur.size := by omega
          rw [h3, Nat.mul_one]
          simp [World.cell?, hg, this]
        · intro j hj
          simp [World.frozen?, hg]
        · refine .inr ⟨g, o, cap, cur', by rw [List.length_append, hm], by rw [h3, Nat.mul_one]; exact e1, by rw [List.length_append]; omega, hcm, by rw [e2]; exact hsz, fun j hj => ?_⟩
          rw [List.length_append] at hj
          by_cases hjl : j < L.length
          · rw [e3 _ (by omega), hcur j hjl, List.getElem?_append_left hjl]
          · have := e4 (j - L.length) (by rw [ints_length]; omega) (by omega)
            rw [show o + L.length + (j - L.length) = o + j by omega] at this
            rw [this, ints_get M _ (by omega), List.getElem?_append_right (by omega)]
        · rw [h3, Nat.mul_one]; exact keep_cells g _ _ _
        · intro k hk; exact .inl (by simpa [Value.ownBlock] using hk)
      · obtain ⟨v', w', hrun, hown, hgr⟩ := run_append_arg_grows (P := P) w t ty e i (.int .i64 0) 1 8 ht h1 h2 h3 h4 rfl (by decide) ⟨g, o, none⟩ L.length cap (ints L) (by rw [ints_length, Nat.mul_one]) (by
          intro j u hu
          have hj : j < L.length := by
            rcases Nat.lt_or_ge j L.length with hj | hj
            · exact hj
            · rw [List.getElem?_eq_none (by rw [ints_length]; exact hj)] at hu; cases hu
          rw [ints_get L j hj] at hu
          rw [Addr.add_lit]
          simp [World.cell?, hg, hcur j hj]
          exact Option.some.inj hu) ad m c (ints M) hlen hnews (by omega) (by unfold maxLen; omega) (by omega)
        rw [ints_app] at hown
        refine ⟨v', w', hrun, own_mid hown, (Keep.ofGrown hgr).mono (by simp), fun k hk => .inr (own_block hown k hk)⟩
/-- For the walk. -/
theorem wpList_append_mids {P : Program} (w : World) {ops : Array Oper} {rest : List Oper} {o : Oper} {a : Act} {Q : Exit → Act → World → Prop} (hgd : o.guard = none) (s x : Operand) (t : TypeId)
    (ho : o.op = .call { callee := .builtin .append, args := #[s, x], argTypes := #[t, t] }) (e : TypeId) (i : TypeInfo) (ht : P.underlying t = some (.slice e)) (hi : P.info? e = some i ∧ i.zero = some (.int .i64 0) ∧ i.size = 1 ∧ i.bytes = 8)
    (v : Value) (L : List Int) (hs : a.eval s = v) (hv : IsMid w e v L) (xa : Option Addr) (m c : Nat) (M : List Int) (hx : a.eval x = .slice xa m c) (hM : IntsAt w xa M) (hm : M.length = m) (hl : L.length + m ≤ 1000000)
    (h : ∀ v' w', IsMid w' e v' (L ++ M) → Keep v.ownBlock.toList w w' → (∀ k, v'.ownBlock = some k → v.ownBlock = some k ∨ w.heap.size ≤ k) → wpList P ops Q rest (a.put o.dst v') w') : wpList P ops Q (o :: rest) a w := by
  refine wpList_plain hgd fun K hK' => ?_
  obtain ⟨v', w', hrun, r1, r2, r3⟩ := run_append_mids (P := P) w t o.type e i ht hi v L hv xa m c M hM hm hl
  unfold Oper.wp
  simp [execOp, ho, resolve, invoke, builtin, hs, hx, hrun, Result.andThen]
  exact hK' _ _ (h v' w' r1 r2 r3)
/-- At a step of a region that draws. -/
theorem step_append_mids {P : Program} (w : World) {ops : Array Oper} {o : Oper} {a : Act} {K : Act → World → Prop} {Q : Exit → Act → World → Prop} {E : Prop} (hgd : o.guard = none) (s x : Operand) (t : TypeId)
    (ho : o.op = .call { callee := .builtin .append, args := #[s, x], argTypes := #[t, t] }) (e : TypeId) (i : TypeInfo) (ht : P.underlying t = some (.slice e)) (hi : P.info? e = some i ∧ i.zero = some (.int .i64 0) ∧ i.size = 1 ∧ i.bytes = 8)
    (v : Value) (L : List Int) (hs : a.eval s = v) (hv : IsMid w e v L) (xa : Option Addr) (m c : Nat) (M : List Int) (hx : a.eval x = .slice xa m c) (hM : IntsAt w xa M) (hm : M.length = m) (hl : L.length + m ≤ 1000000)
    (h : ∀ v' w', IsMid w' e v' (L ++ M) → Keep v.ownBlock.toList w w' → (∀ k, v'.ownBlock = some k → v.ownBlock = some k ∨ w.heap.size ≤ k) → K (a.put o.dst v') w') :
    if Region.wanted o (yielded ops a.tmps) = true then Oper.wp P o a w K Q else E := by
  have hw : Region.wanted o (yielded ops a.tmps) = true := by simp [Region.wanted, hgd]
  rw [if_pos hw]
  obtain ⟨v', w', hrun, r1, r2, r3⟩ := run_append_mids (P := P) w t o.type e i ht hi v L hv xa m c M hM hm hl
  unfold Oper.wp
  simp [execOp, ho, resolve, invoke, builtin, hs, hx, hrun, Result.andThen]
  exact h v' w' r1 r2 r3

/-- A list is another one. -/
theorem Has.midTurn {w0 w w1 : World} {F0 : List Nat} {A : Asn} {t : TypeId} {va va' : Value} {L L' : List Int} (h : Has w0 F0 (A.star (midA t va L)) w) (K : Keep va.ownBlock.toList w w1) (hm : IsMid w1 t va' L') (hg : ∀ k, va'.ownBlock = some k → va.ownBlock = some k ∨ w.heap.size ≤ k) :
    Has w0 F0 (A.star (midA t va' L')) w1 :=
  (Has.left (A' := midA t va' L') h.comm (fun F hF => ⟨va'.ownBlock.toList, ⟨rfl, hm⟩, by rw [hF.1]; exact K, fun k e => by
    rw [hF.1]
    rcases hg k (by simpa using e) with g | g
    · exact .inl (by simp [g])
    · exact .inr g⟩)).comm

end Go.Proofs.Ytjlfjbdkffppeaa
