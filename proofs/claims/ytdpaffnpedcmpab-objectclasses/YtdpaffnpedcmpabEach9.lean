/-
  All blocks of a space, by address: each once, rising; one more where one is made, one less where one is freed. Plain facts.
-/
import Derived.Test.YtdpaffnpedcmpabObjRoom
namespace Go.Proofs.Ytdpaffnpedcmpab
open Go.RowKit

theorem sz_pos (c : Nat) : 0 < sz c := Nat.pos_of_ne_zero (by unfold sz; exact Nat.pos_iff_ne_zero.1 (Nat.two_pow_pos _))
theorem startsTo_rises (p c : Nat) (xs : List Bool) (j : Nat) : (startsTo p c xs j).Pairwise (· < ·) := by
  unfold startsTo
  rw [List.pairwise_map]
  refine List.Pairwise.filter _ ?_
  refine (List.pairwise_lt_range).imp (fun {a b} h => ?_)
  have := Nat.mul_lt_mul_of_pos_right h (sz_pos c)
  omega
theorem startsK_rises (p : Nat) (x : PK) : (startsK p x).Pairwise (· < ·) := by
  unfold startsK
  split
  · exact startsTo_rises _ _ _ _
  · simp
  · simp
theorem WF.each_rises {kd : List PK} (h : WF kd) (m : Nat) : (eachTo kd m).Pairwise (· < ·) := by
  induction m with
  | zero => simp [eachTo]
  | succ m ih =>
    rw [eachTo_succ, List.pairwise_append]
    refine ⟨ih, startsK_rises _ _, fun x hx y hy => ?_⟩
    obtain ⟨a, n, rfl, h1, _⟩ := h.each_in m x hx
    obtain ⟨b, n', rfl, h2, _⟩ := h.starts_in m y hy
    omega
theorem eachTo_of {kd : List PK} {m p : Nat} {x : Int} (hp : p < m) (h : x ∈ startsK p (kat kd p)) : x ∈ eachTo kd m := by
  unfold eachTo
  rw [List.mem_flatMap]
  exact ⟨p, by simpa using hp, h⟩
theorem startsTo_of {p c : Nat} {xs : List Bool} {j i : Nat} (hi : i < j) (h : xs[i]?.getD false = true) : ((64 * p + i * sz c : Nat) : Int) ∈ startsTo p c xs j := by
  unfold startsTo
  rw [List.mem_map]
  exact ⟨i, by rw [List.mem_filter]; exact ⟨by simpa using hi, h⟩, rfl⟩
theorem WF.each_of {kd : List PK} (h : WF kd) {a n : Nat} (hf : findN kd a = some (a, n)) : (a : Int) ∈ eachK kd := by
  cases hk : kat kd (a / 64) with
  | zero => rw [find_zero kd a hk] at hf; cases hf
  | free => rw [find_free kd a hk] at hf; cases hf
  | small c xs =>
    obtain ⟨hc, hl, _⟩ := h.small _ c xs hk
    rw [find_small kd a c xs hk] at hf
    split at hf
    · rename_i hx
      injection hf with hf
      injection hf with h1 h2
      obtain ⟨y1, y2, y3, y4⟩ := sz_word c a hc
      have e : a = 64 * (a / 64) + a % 64 / sz c * sz c := by omega
      refine eachTo_of (p := a / 64) (kat_lt _ _ (by rw [hk]; simp)) ?_
      rw [hk]
      show (a : Int) ∈ startsTo _ _ _ _
      have := startsTo_of (p := a / 64) (c := c) (xs := xs) (j := xs.length) (i := a % 64 / sz c) (by rw [hl]; exact y2) hx
      rw [← e] at this
      exact this
    · cases hf
  | part j k =>
    rw [find_part kd a j k hk] at hf
    injection hf with hf
    injection hf with h1 h2
    have hp0 := h.part0 hk
    obtain rfl : j = 0 := by omega
    refine eachTo_of (p := a / 64) (kat_lt _ _ (by rw [hk]; simp)) ?_
    rw [hk]
    show (a : Int) ∈ [((64 * (a / 64) : Nat) : Int)]
    simp; omega
theorem WF.each_iff {kd : List PK} (h : WF kd) (x : Int) : x ∈ eachK kd ↔ ∃ a n : Nat, x = a ∧ findN kd a = some (a, n) := by
  constructor
  · intro hx
    obtain ⟨a, n, h1, _, _, h2⟩ := h.each_in _ x hx
    exact ⟨a, n, h1, h2⟩
  · rintro ⟨a, n, rfl, h2⟩
    exact h.each_of h2
theorem nodup_of_rises {L : List Int} (h : L.Pairwise (· < ·)) : L.Nodup := h.imp (fun {a b} h e => by omega)
theorem WF.each_nodup {kd : List PK} (h : WF kd) : (eachK kd).Nodup := nodup_of_rises (h.each_rises _)
theorem AllocR.count {kd kd' : List PK} {n : Int} {a : Nat} (h : WF kd) (hr : AllocR kd n (some (a, kd'))) : (eachK kd').length = (eachK kd).length + 1 := by
  obtain ⟨b, hb, h1, h2, h3, h4, h5, h6, h7⟩ := hr.spec h
  have hp : (eachK kd').Perm ((a : Int) :: eachK kd) := by
    refine (List.perm_ext_iff_of_nodup h2.each_nodup ?_).2 (fun x => ?_)
    · rw [List.nodup_cons]
      refine ⟨fun e => ?_, h.each_nodup⟩
      obtain ⟨c, m, e1, e2⟩ := (h.each_iff _).1 e
      obtain rfl : c = a := by omega
      rw [h6 c (by omega) (by omega)] at e2
      cases e2
    · rw [h2.each_iff, List.mem_cons, h.each_iff]
      constructor
      · rintro ⟨c, m, rfl, e⟩
        rw [h7] at e
        split at e
        · cases e; exact .inl rfl
        · exact .inr ⟨c, m, rfl, e⟩
      · rintro (rfl | ⟨c, m, rfl, e⟩)
        · exact ⟨a, b, rfl, by rw [h7, if_pos (by omega)]⟩
        · refine ⟨c, m, rfl, ?_⟩
          rw [h7, if_neg ?_]
          · exact e
          · intro g; rw [h6 c g.1 g.2] at e; cases e
  rw [hp.length_eq]; rfl
/-- Rising, place by place. -/
theorem WF.each_lt {kd : List PK} (h : WF kd) {i j : Nat} (hij : i < j) (hj : j < (eachK kd).length) : (eachK kd)[i]?.getD 0 < (eachK kd)[j]?.getD 0 := by
  have := List.pairwise_iff_getElem.1 (h.each_rises kd.length) i j (show i < (eachTo kd kd.length).length by unfold eachK at hj; omega) hj hij
  have hi : i < (eachK kd).length := by omega
  rw [List.getElem?_eq_getElem hi, List.getElem?_eq_getElem hj]
  exact this

/-- The cells of a list of objects. -/
theorem ObjsAt.cell {w0 w : World} {va : Option Addr} {n vc : Nat} {vs : List OV} (h : ObjsAt w0 w va n vc vs) (hn : 0 < n) : ∃ g, va = some ⟨g, 0, none⟩ ∧ g < w.heap.size ∧ ∀ (i : Nat) (v : OV) (t : Nat), vs[i]? = some v → t < 6 → w.cell? ⟨g, i * 6 + t, none⟩ = v.cells[t]? := by
  rcases h.own.2 with ⟨h1, h0⟩ | ⟨g, cap, cur, h1, h2, h3, h4, h5, h6, h7⟩
  · omega
  · cases h1
    refine ⟨g, rfl, lt_of_block h3, fun i v t hv ht => ?_⟩
    have hi : i < vs.length := by
      rcases Nat.lt_or_ge i vs.length with e | e
      · exact e
      · rw [List.getElem?_eq_none e] at hv; cases hv
    rw [h.len] at hi
    have e := flatO_get vs i v hv t ht
    have hl := h.len
    rw [← h7, List.getElem?_take, if_pos (by omega)] at e
    have e' : cur[i * 6 + t]? = v.cells[t]? := by simpa using e
    simp [World.cell?, h3, e']

end Go.Proofs.Ytdpaffnpedcmpab
