/-
  Two lists of objects: as they lie in memory, and whether they are one.
-/
import Derived.Test.YtgpidokklhjfdaaGreatPart7
import Derived.Test.YtgpidokklhjfdaaGreatSame
namespace Go.Proofs.YtgpidokklhjfdaaGreat
open Go.RowKit

/-- An object in memory: its fields lie wherever they lie. -/
structure RV where
  o : OM
  la : Option Addr
  lc : Nat
def RV.cells (v : RV) : List Value := [.int .i64 v.o.a, .int .i64 v.o.k, .int .i64 v.o.c, .int .i64 v.o.l, .bool v.o.f, .slice v.la v.o.L.length v.lc]
def flatR (vs : List RV) : List Value := vs.flatMap RV.cells
theorem flatR_app (vs us : List RV) : flatR (vs ++ us) = flatR vs ++ flatR us := by simp [flatR]
theorem flatR_one (v : RV) : flatR [v] = v.cells := by simp [flatR]
theorem flatR_length (vs : List RV) : (flatR vs).length = vs.length * 6 := by
  induction vs with
  | nil => rfl
  | cons c cs ih => simp [flatR, RV.cells] at *; omega
theorem flatR_get (vs : List RV) (i : Nat) (v : RV) (h : vs[i]? = some v) (t : Nat) (ht : t < 6) : (flatR vs)[i * 6 + t]? = v.cells[t]? := by
  induction vs generalizing i with
  | nil => simp at h
  | cons d vs ih =>
    have e : flatR (d :: vs) = d.cells ++ flatR vs := by simp [flatR]
    have hd : d.cells.length = 6 := rfl
    rw [e]
    cases i with
    | zero => simp at h; subst h; rw [List.getElem?_append_left (by omega)]; simp
    | succ i =>
      simp at h
      rw [List.getElem?_append_right (by omega), hd, show (i + 1) * 6 + t - 6 = i * 6 + t by omega]
      exact ih i h
def OV.rv (v : OV) : RV := ⟨v.o, some ⟨v.z, 0, none⟩, v.o.L.length⟩
theorem flatO_rv (vs : List OV) : flatO vs = flatR (vs.map OV.rv) := by
  induction vs with
  | nil => rfl
  | cons v vs ih => simp [flatO, flatR, OV.cells, RV.cells, OV.rv] at *; exact ih

/-- A list of objects that is read. -/
structure ObjL (w : World) (va : Option Addr) (n : Nat) (vs : List RV) : Prop where
  len : vs.length = n
  cells : 0 < n → ∃ b, va = some ⟨b, 0, none⟩ ∧ b < w.heap.size ∧ ∀ (i : Nat) (v : RV) (t : Nat), vs[i]? = some v → t < 6 → w.cell? ⟨b, i * 6 + t, none⟩ = v.cells[t]?
  each : ∀ (i : Nat) (v : RV), vs[i]? = some v → IntsAt w v.la v.o.L ∧ v.o.L.length ≤ 1000000
theorem ObjL.keep0 {w w' : World} {va : Option Addr} {n : Nat} {vs : List RV} (h : ObjL w va n vs) (K : Keep [] w w') : ObjL w' va n vs :=
  ⟨h.len, fun h0 => by
    obtain ⟨b, e, hb, hc⟩ := h.cells h0
    exact ⟨b, e, Nat.lt_of_lt_of_le hb K.size, fun i v t h1 h2 => (K.cell hb (by simp) _).trans (hc i v t h1 h2)⟩, fun i v e => ⟨(h.each i v e).1.keep K (fun _ _ _ => by simp), (h.each i v e).2⟩⟩
theorem own_cells {w : World} {base n vc : Nat} {va : Option Addr} {vs : List RV} (hown : w.ownsRow base 101 6 (.slice va n vc) n (flatR vs)) (hl : vs.length = n) (h0 : 0 < n) :
    ∃ b, va = some ⟨b, 0, none⟩ ∧ b < w.heap.size ∧ ∀ (i : Nat) (v : RV) (t : Nat), vs[i]? = some v → t < 6 → w.cell? ⟨b, i * 6 + t, none⟩ = v.cells[t]? := by
  rcases hown.2 with ⟨h1, h0⟩ | ⟨g, cap, cur, h1, h2, h3, h4, h5, h6, h7⟩
  · omega
  · cases h1
    refine ⟨g, rfl, lt_of_block h3, fun i v t hv ht => ?_⟩
    have hi : i < vs.length := by
      rcases Nat.lt_or_ge i vs.length with e | e
      · exact e
      · rw [List.getElem?_eq_none e] at hv; cases hv
    rw [hl] at hi
    have e := flatR_get vs i v hv t ht
    rw [← h7, List.getElem?_take, if_pos (by omega)] at e
    have e' : cur[i * 6 + t]? = v.cells[t]? := by simpa using e
    simp [World.cell?, h3, e']
theorem ObjsAt.read {w0 w : World} {va : Option Addr} {n vc : Nat} {vs : List OV} (h : ObjsAt w0 w va n vc vs) (hb : ∀ v, v ∈ vs → (∀ i : Nat, inI (v.o.L[i]?.getD 0)) ∧ v.o.L.length ≤ 1000000) : ObjL w va n (vs.map OV.rv) := by
  have ho := h.own
  rw [flatO_rv] at ho
  refine ⟨by rw [List.length_map]; exact h.len, own_cells ho (by rw [List.length_map]; exact h.len), fun i v e => ?_⟩
  rw [List.getElem?_map] at e
  cases hv : vs[i]? with
  | none => rw [hv] at e; cases e
  | some u =>
    rw [hv] at e
    simp at e
    subst e
    obtain ⟨h1, _⟩ := h.each i u hv
    obtain ⟨b1, b2⟩ := hb u (List.mem_of_getElem? hv)
    exact ⟨h1.ints b1, b2⟩

set_option maxRecDepth 100000 in
set_option maxHeartbeats 1600000 in
theorem sameObjs (va vb : Option Addr) (n c d : Nat) (us vs : List RV) (w : World) (hA : ObjL w va n us) (hB : ObjL w vb n vs) (he : us.map RV.o = vs.map RV.o) (hn : n ≤ 1000000) :
    Calls Tryz.prog 17 #[.slice va n c, .slice vb n d] w fun e w' => e = .returned (.bool true) ∧ Keep [] w w' := by
  have HA := (show Hid (ObjL w va n us) from hA)
  have HB := (show Hid (ObjL w vb n vs) from hB)
  have HE := (show Hid (us.map RV.o = vs.map RV.o) from he)
  clear hA hB he
  go_enter Tryz.func17, Tryz.ntmps17
  go_wp2
  go_loopw [5] (fun i wr => ∃ j : Nat, i = .int .i64 j ∧ j ≤ n ∧ Keep [] w wr) (fun i _ => n - (intOf i).toNat)
  case atStart => exact ⟨0, rfl, by omega, Keep.refl _ _⟩
  case round =>
    obtain ⟨j, rfl, hj, hK⟩ := hrel
    obtain ⟨w1, rfl⟩ : ∃ w1, w1 = wr := ⟨_, rfl⟩
    by_cases hlt : j < n
    · have hA1 := HA.out.keep0 hK
      have hB1 := HB.out.keep0 hK
      obtain ⟨u, hu⟩ : ∃ u, us[j]? = some u := ⟨us[j]'(by rw [hA1.len]; exact hlt), by simp [hA1.len, hlt]⟩
      obtain ⟨v, hv⟩ : ∃ v, vs[j]? = some v := ⟨vs[j]'(by rw [hB1.len]; exact hlt), by simp [hB1.len, hlt]⟩
      have huv : u.o = v.o := by
        have := congrArg (fun l : List OM => l[j]?) HE.out
        simpa [List.getElem?_map, hu, hv] using this
      obtain ⟨b, rfl, hbs, hcell⟩ := hA1.cells (by omega)
      obtain ⟨b2, rfl, hbs2, hcell2⟩ := hB1.cells (by omega)
      have x0 := hcell j u 0 hu (by omega)
      have x1 := hcell j u 1 hu (by omega)
      have x2 := hcell j u 2 hu (by omega)
      have x3 := hcell j u 3 hu (by omega)
      have x4 := hcell j u 4 hu (by omega)
      have x5 := hcell j u 5 hu (by omega)
      have y0 := hcell2 j v 0 hv (by omega)
      have y1 := hcell2 j v 1 hv (by omega)
      have y2 := hcell2 j v 2 hv (by omega)
      have y3 := hcell2 j v 3 hv (by omega)
      have y4 := hcell2 j v 4 hv (by omega)
      have y5 := hcell2 j v 5 hv (by omega)
      obtain ⟨hIu, hlu⟩ := hA1.each j u hu
      obtain ⟨hIv, hlv⟩ := hB1.each j v hv
      rw [← huv] at hIv
      simp only [RV.cells, ← huv, Nat.add_zero, List.getElem?_cons_zero, List.getElem?_cons_succ] at x0 x1 x2 x3 x4 x5 y0 y1 y2 y3 y4 y5
      have HIU := (show Hid (IntsAt w1 u.la u.o.L ∧ IntsAt w1 v.la u.o.L) from ⟨hIu, hIv⟩)
      obtain ⟨m, hm⟩ : ∃ m, u.o.L.length = m := ⟨_, rfl⟩
      have HM := (show Hid (u.o.L.length = m) from hm)
      rw [hm] at x5 y5 hlu
      clear hA1 hB1 hcell hcell2 hIu hIv huv hu hv hm hlv
      generalize u.o.a = qa at *
      generalize u.o.k = qk at *
      generalize u.o.c = qc at *
      generalize u.o.l = ql at *
      generalize u.o.f = qf at *
      go_wp2_with fail
      go_quiet (first | (go_at_call 12; exact Calls.quiet_of (same_q u.la v.la m u.lc v.lc u.o.L _ (HIU.out.1.keep (Keep.drewN [] _ _) (by simp [Off])) (HIU.out.2.keep (Keep.drewN [] _ _) (by simp [Off])) HM.out hlu)))
      have hK7 := hK.trans (Keep.drewN [] w1 nq)
      generalize w1.drewN nq = w7 at *
      go_wp2_with fail
      go_roundw
      case rel => exact ⟨j + 1, by go_num, by omega, hK7⟩
      case measure => simp [intOf]; omega
    · obtain rfl : j = n := by omega
      go_wp2_with fail
      go_ret
      exact ⟨rfl, hK⟩

end Go.Proofs.YtgpidokklhjfdaaGreat
