/-
  Contracts of what the statement calls, one text behind the other (Model12, Same, Awake7, RHeapAdd, ObjSame, RHeapObjs, Duo12, Model13, Opens, Calls13).
-/
import Derived.Test.YtamcoejlghfleaaGreatPart8
import Derived.Test.YtamcoejlghfleaaGreatPart9
import Derived.Test.YtamcoejlghfleaaGreatRows
import Derived.Test.YtamcoejlghfleaaGreatPart1
import Derived.Test.YtamcoejlghfleaaGreatPart4
import Derived.Test.YtamcoejlghfleaaGreatPart7
import Derived.ProofKit
import Derived.OpenShut
import Derived.Deep.Slices

/-
  Model of gloaminglaw12, and In of the document's own words: what they answer.
-/
namespace Go.Proofs.YtamcoejlghfleaaGreat
open Go.RowKit

/-- Whether a number is of a list. -/
def inL (L : List Int) (x : Int) : Bool := decide (x ∈ L)
theorem inL_yes {L : List Int} {x : Int} {j : Nat} (h : j < L.length) (e : L[j]?.getD 0 = x) : inL L x = true := by
  apply decide_eq_true
  rw [List.getElem?_eq_getElem h] at e
  simp at e
  subst e
  exact List.getElem_mem h
theorem inL_no {L : List Int} {x : Int} (h : ∀ j, j < L.length → L[j]?.getD 0 ≠ x) : inL L x = false := by
  apply decide_eq_false
  intro e
  obtain ⟨j, hj, e⟩ := List.getElem_of_mem e
  apply h j hj
  rw [List.getElem?_eq_getElem hj, e]; rfl
end Go.Proofs.YtamcoejlghfleaaGreat

/-
  Whether two lists of integers are the same, as the document's own helper tells it.
-/
namespace Go.Proofs.YtamcoejlghfleaaGreat
open Go.RowKit

set_option maxHeartbeats 800000 in
theorem same_q (ao bo : Option Addr) (n c d : Nat) (L : List Int) (w : World) (hA : IntsAt w ao L) (hB : IntsAt w bo L) (hn : L.length = n) (hb : n ≤ 1000000) :
    Calls Tryz.prog 22 #[.slice ao n c, .slice bo n d] w fun e w' => e = .returned (.bool true) ∧ ∃ m, w' = w.drewN m := by
  have HI := (show Hid (0 < n → ∃ b off, ao = some ⟨b, off, none⟩ ∧ b < w.heap.size ∧ ∀ i, i < n → w.cell? ⟨b, off + i, none⟩ = some (.int .i64 (L[i]?.getD 0))) from fun h => by rw [← hn] at h ⊢; exact hA.cells h)
  have HJ := (show Hid (0 < n → ∃ b off, bo = some ⟨b, off, none⟩ ∧ b < w.heap.size ∧ ∀ i, i < n → w.cell? ⟨b, off + i, none⟩ = some (.int .i64 (L[i]?.getD 0))) from fun h => by rw [← hn] at h ⊢; exact hB.cells h)
  clear hA hB hn
  go_enter Tryz.func22, Tryz.ntmps22
  go_wp2
  go_loopw [5] (fun i wr => ∃ j : Nat, i = .int .i64 j ∧ j ≤ n ∧ Hid (∃ m, wr = w.drewN m)) (fun i _ => n - (intOf i).toNat)
  case atStart => exact ⟨0, rfl, by omega, 0, rfl⟩
  case round =>
    obtain ⟨j, rfl, hj, hD⟩ := hrel
    have hK : Keep [] w wr := by obtain ⟨m, e⟩ := hD.out; rw [e]; exact Keep.drewN _ _ _
    by_cases hlt : j < n
    · obtain ⟨b, off, rfl, hbs, hcell⟩ := HI.out (by omega)
      obtain ⟨b2, off2, rfl, hbs2, hcell2⟩ := HJ.out (by omega)
      have hc := (hK.cell hbs (by simp) (off + j)).trans (hcell j hlt)
      have hc2 := (hK.cell hbs2 (by simp) (off2 + j)).trans (hcell2 j hlt)
      generalize L[j]?.getD 0 = x at hc hc2
      clear hcell hcell2
      go_wp2_with fail
      go_quiet (fail)
      go_wp2_with fail
      go_roundw
      case rel =>
        refine ⟨j + 1, by go_num, by omega, ?_⟩
        obtain ⟨m, e⟩ := hD.out
        exact ⟨m + nq, by rw [e, World.drewN_drewN]⟩
      case measure => simp [intOf]; omega
    · obtain rfl : j = n := by omega
      go_wp2
      go_ret
      exact ⟨rfl, hD.out⟩
theorem same_eq (ao bo : Option Addr) (n c d : Nat) (L : List Int) (w : World) (hA : IntsAt w ao L) (hB : IntsAt w bo L) (hn : L.length = n) (hb : n ≤ 1000000) :
    Calls Tryz.prog 22 #[.slice ao n c, .slice bo n d] w fun e w' => e = .returned (.bool true) ∧ Keep [] w w' := by
  refine (same_q ao bo n c d L w hA hB hn hb).mono ?_
  rintro e w' ⟨rfl, m, rfl⟩
  exact ⟨rfl, Keep.drewN _ _ _⟩

end Go.Proofs.YtamcoejlghfleaaGreat

/-
  What the seventh folder's own helpers answer, whether a class may be as the document says it, and whether two lists of integers are the same.
-/
namespace Go.Proofs.YtamcoejlghfleaaGreat
open Go.RowKit

theorem err7 (x : Int) (w : World) : Calls Tryz.prog 8 #[.int .i64 x] w fun e w' => e = .returned (.int .i64 x) ∧ w = w' := by
  go_enter Tryz.func8, Tryz.ntmps8
  go_wp2
  go_ret
  exact ⟨rfl, rfl⟩

theorem aw_n : addN [] 2 [0] = 1 := by decide
theorem aw_e : addE [] 2 [0] = 0 := by decide
theorem aw_r : addR [] 2 [0] = [(2, [0])] := by decide
end Go.Proofs.YtamcoejlghfleaaGreat

/-
  The document's own heap: Add.
-/
namespace Go.Proofs.YtamcoejlghfleaaGreat
open Go.RowKit

/-- append onto a row of one's own that is empty, at a step of a region that draws: whatever is appended. -/
theorem step_append_own0 {P : Program} {w : World} {ops : Array Oper} {o : Oper} {a : Act} {K : Act → World → Prop} {Q : Exit → Act → World → Prop} {E : Prop} (hgd : o.guard = none) (s x : Operand) (t : TypeId)
    (ho : o.op = .call { callee := .builtin .append, args := #[s, x], argTypes := #[t, t] })
    (base : Nat) (e : TypeId) (i : TypeInfo) (ht : P.underlying t = some (.slice e)) (hi : P.info? e = some i ∧ i.zero = some (.int .i64 0) ∧ i.size = 1 ∧ i.bytes = 8)
    (L : List Int) (g : Nat) (hs : a.eval s = .slice (some ⟨g, 0, none⟩) 0 0) (hown : w.ownsRow base e 1 (.slice (some ⟨g, 0, none⟩) 0 0) 0 (ints [])) (hbase : base ≤ w.heap.size) (xa : Option Addr) (m c : Nat) (hm : L.length = m)
    (hx : a.eval x = .slice xa m c) (hM : IntsAt w xa L) (hc : xa = none → c = 0) (hl : m ≤ 1000000)
    (h : ∀ la lc w', IntsAt w' la L → (la = none → lc = 0) → (∀ a, la = some a → base ≤ a.block ∧ a.block < w'.heap.size) → w.grownBy w' (some g) → K (a.put o.dst (.slice la m lc)) w') :
    if Region.wanted o (yielded ops a.tmps) = true then Oper.wp P o a w K Q else E := by
  have hw : Region.wanted o (yielded ops a.tmps) = true := by simp [Region.wanted, hgd]
  rw [if_pos hw]
  obtain ⟨h1, h2, h3, h4⟩ := hi
  subst hm
  cases xa with
  | none =>
    have h0 : L = [] := by
      rcases Nat.eq_zero_or_pos L.length with h0 | h0
      · exact List.length_eq_zero_iff.1 h0
      · obtain ⟨_, _, e, _⟩ := hM.cells h0; cases e
    subst h0
    obtain rfl := hc rfl
    have hrun := run_append_owned_none (P := P) (w := w) base t o.type e i 1 ht h1 (.slice (some ⟨g, 0, none⟩) 0 0) 0 _ hown
    unfold Oper.wp
    simp at hx
    simp [execOp, ho, resolve, invoke, builtin, hs, hx, hrun, Result.andThen]
    refine h _ _ _ (IntsAt.nil _ _) (by simp) (fun a e => ?_) (grown_refl _ _)
    cases e
    rcases own_ints hown (by simp) with ⟨e, _⟩ | ⟨g', cap, e1, _, e2, e3, _⟩
    · cases e
    · cases e1; exact ⟨e2, e3⟩
  | some ad =>
    refine wp_append_own w s x t ho base e i (.int .i64 0) 1 8 ht h1 h2 h3 h4 rfl (by decide) _ 0 _ hs hown ad L.length c (ints L) hx (by rw [ints_length]; omega) ?_ (ints_one _) (by unfold maxLen; omega) (by omega) hbase ?_
    · intro j u hu
      have hj : j < L.length := by
        rcases Nat.lt_or_ge j L.length with hj | hj
        · exact hj
        · rw [List.getElem?_eq_none (by rw [ints_length]; exact hj)] at hu; cases hu
      obtain ⟨b, off, e1, _, hcell⟩ := hM.cells (by omega)
      cases e1
      rw [ints_get L j hj] at hu
      rw [Go.WideShapes.add_plain, hcell j hj]; exact hu
    · intro v' w' hown' hg _
      rw [show ints ([] : List Int) = [] from rfl, List.nil_append, Nat.zero_add] at hown'
      obtain ⟨la, lc, rfl, _, hI, hb, hn⟩ := own_form hown' (fun i => ⟨hM.low i, hM.high i⟩)
      exact h la lc w' hI hn hb hg

theorem RTabAt.far4 {F : List Nat} {w w4 : World} {tb mb vc : Nat} {va : Option Addr} {cs : List CV} {o : Obj} (h : RTabAt w tb mb va vc F cs) (hg : (w.alloc o).grownBy w4 (Value.slice va cs.length vc).ownBlock) :
    w4.cell? ⟨tb, 1, none⟩ = some (.slice va cs.length vc) ∧ w4.frozen? ⟨tb, 1, none⟩ = false := by
  have htb := h.lt _ h.tF
  have e : w4.heap[tb]? = some (.cells #[.pointer (some ⟨mb, 0, none⟩), .slice va cs.length vc] 98 (0, 0)) := by
    rw [← h.head]
    refine (hg.block tb (by simp; omega) (fun e => ?_)).trans (Below.heap_alloc _ _ _ htb)
    cases va with
    | none => simp [Value.ownBlock] at e
    | some a => simp [Value.ownBlock] at e; exact (h.vF a rfl).2 e.symm
  exact ⟨by simp [World.cell?, e], by simp [World.frozen?, e]⟩

section
variable {w0 : World} {F0 : List Nat} {hb mb : Nat} {ws : List Int} {kd : List PK} {ds : List (Int × List Int)}
end

end Go.Proofs.YtamcoejlghfleaaGreat

/-
  Two lists of objects: as they lie in memory, and whether they are one.
-/
namespace Go.Proofs.YtamcoejlghfleaaGreat
open Go.RowKit

/-- An object in memory: its fields lie wherever they lie. -/
structure RV where
  o : OM
  la : Option Addr
  lc : Nat
def RV.cells (v : RV) : List Value := [.int .i64 v.o.a, .int .i64 v.o.k, .int .i64 v.o.c, .int .i64 v.o.l, .bool v.o.f, .slice v.la v.o.L.length v.lc]
def flatR (vs : List RV) : List Value := vs.flatMap RV.cells
theorem flatR_app (vs us : List RV) : flatR (vs ++ us) = flatR vs ++ flatR us := by simp [flatR]
theorem flatR_one (v : RV) : flatR [v] = v.cells := by simp [flatR]
theorem flatR_length (vs : List RV) : (flatR vs).length = vs.length * 6 := by
  induction vs with
  | nil => rfl
  | cons c cs ih => simp [flatR, RV.cells] at *; omega
theorem flatR_get (vs : List RV) (i : Nat) (v : RV) (h : vs[i]? = some v) (t : Nat) (ht : t < 6) : (flatR vs)[i * 6 + t]? = v.cells[t]? := by
  induction vs generalizing i with
  | nil => simp at h
  | cons d vs ih =>
    have e : flatR (d :: vs) = d.cells ++ flatR vs := by simp [flatR]
    have hd : d.cells.length = 6 := rfl
    rw [e]
    cases i with
    | zero => simp at h; subst h; rw [List.getElem?_append_left (by omega)]; simp
    | succ i =>
      simp at h
      rw [List.getElem?_append_right (by omega), hd, show (i + 1) * 6 + t - 6 = i * 6 + t by omega]
      exact ih i h
def OV.rv (v : OV) : RV := ⟨v.o, some ⟨v.z, 0, none⟩, v.o.L.length⟩
theorem flatO_rv (vs : List OV) : flatO vs = flatR (vs.map OV.rv) := by
  induction vs with
  | nil => rfl
  | cons v vs ih => simp [flatO, flatR, OV.cells, RV.cells, OV.rv] at *; exact ih

/-- A list of objects that is read. -/
structure ObjL (w : World) (va : Option Addr) (n : Nat) (vs : List RV) : Prop where
  len : vs.length = n
  cells : 0 < n → ∃ b, va = some ⟨b, 0, none⟩ ∧ b < w.heap.size ∧ ∀ (i : Nat) (v : RV) (t : Nat), vs[i]? = some v → t < 6 → w.cell? ⟨b, i * 6 + t, none⟩ = v.cells[t]?
  each : ∀ (i : Nat) (v : RV), vs[i]? = some v → IntsAt w v.la v.o.L ∧ v.o.L.length ≤ 1000000
theorem ObjL.keep0 {w w' : World} {va : Option Addr} {n : Nat} {vs : List RV} (h : ObjL w va n vs) (K : Keep [] w w') : ObjL w' va n vs :=
  ⟨h.len, fun h0 => by
    obtain ⟨b, e, hb, hc⟩ := h.cells h0
    exact ⟨b, e, Nat.lt_of_lt_of_le hb K.size, fun i v t h1 h2 => (K.cell hb (by simp) _).trans (hc i v t h1 h2)⟩, fun i v e => ⟨(h.each i v e).1.keep K (fun _ _ _ => by simp), (h.each i v e).2⟩⟩
theorem own_cells {w : World} {base n vc : Nat} {va : Option Addr} {vs : List RV} (hown : w.ownsRow base 86 6 (.slice va n vc) n (flatR vs)) (hl : vs.length = n) (h0 : 0 < n) :
    ∃ b, va = some ⟨b, 0, none⟩ ∧ b < w.heap.size ∧ ∀ (i : Nat) (v : RV) (t : Nat), vs[i]? = some v → t < 6 → w.cell? ⟨b, i * 6 + t, none⟩ = v.cells[t]? := by
  rcases hown.2 with ⟨h1, h0⟩ | ⟨g, cap, cur, h1, h2, h3, h4, h5, h6, h7⟩
  · omega
  · cases h1
    refine ⟨g, rfl, lt_of_block h3, fun i v t hv ht => ?_⟩
    have hi : i < vs.length := by
      rcases Nat.lt_or_ge i vs.length with e | e
      · exact e
      · rw [List.getElem?_eq_none e] at hv; cases hv
    rw [hl] at hi
    have e := flatR_get vs i v hv t ht
    rw [← h7, List.getElem?_take, if_pos (by omega)] at e
    have e' : cur[i * 6 + t]? = v.cells[t]? := by simpa using e
    simp [World.cell?, h3, e']
theorem ObjsAt.read {w0 w : World} {va : Option Addr} {n vc : Nat} {vs : List OV} (h : ObjsAt w0 w va n vc vs) (hb : ∀ v, v ∈ vs → (∀ i : Nat, inI (v.o.L[i]?.getD 0)) ∧ v.o.L.length ≤ 1000000) : ObjL w va n (vs.map OV.rv) := by
  have ho := h.own
  rw [flatO_rv] at ho
  refine ⟨by rw [List.length_map]; exact h.len, own_cells ho (by rw [List.length_map]; exact h.len), fun i v e => ?_⟩
  rw [List.getElem?_map] at e
  cases hv : vs[i]? with
  | none => rw [hv] at e; cases e
  | some u =>
    rw [hv] at e
    simp at e
    subst e
    obtain ⟨h1, _⟩ := h.each i u hv
    obtain ⟨b1, b2⟩ := hb u (List.mem_of_getElem? hv)
    exact ⟨h1.ints b1, b2⟩

set_option maxRecDepth 100000 in
set_option maxHeartbeats 1600000 in
theorem sameObjs (va vb : Option Addr) (n c d : Nat) (us vs : List RV) (w : World) (hA : ObjL w va n us) (hB : ObjL w vb n vs) (he : us.map RV.o = vs.map RV.o) (hn : n ≤ 1000000) :
    Calls Tryz.prog 19 #[.slice va n c, .slice vb n d] w fun e w' => e = .returned (.bool true) ∧ Keep [] w w' := by
  have HA := (show Hid (ObjL w va n us) from hA)
  have HB := (show Hid (ObjL w vb n vs) from hB)
  have HE := (show Hid (us.map RV.o = vs.map RV.o) from he)
  clear hA hB he
  go_enter Tryz.func19, Tryz.ntmps19
  go_wp2
  go_loopw [5] (fun i wr => ∃ j : Nat, i = .int .i64 j ∧ j ≤ n ∧ Keep [] w wr) (fun i _ => n - (intOf i).toNat)
  case atStart => exact ⟨0, rfl, by omega, Keep.refl _ _⟩
  case round =>
    obtain ⟨j, rfl, hj, hK⟩ := hrel
    obtain ⟨w1, rfl⟩ : ∃ w1, w1 = wr := ⟨_, rfl⟩
    by_cases hlt : j < n
    · have hA1 := HA.out.keep0 hK
      have hB1 := HB.out.keep0 hK
      obtain ⟨u, hu⟩ : ∃ u, us[j]? = some u := ⟨us[j]'(by rw [hA1.len]; exact hlt), by simp [hA1.len, hlt]⟩
      obtain ⟨v, hv⟩ : ∃ v, vs[j]? = some v := ⟨vs[j]'(by rw [hB1.len]; exact hlt), by simp [hB1.len, hlt]⟩
      have huv : u.o = v.o := by
        have := congrArg (fun l : List OM => l[j]?) HE.out
        simpa [List.getElem?_map, hu, hv] using this
      obtain ⟨b, rfl, hbs, hcell⟩ := hA1.cells (by omega)
      obtain ⟨b2, rfl, hbs2, hcell2⟩ := hB1.cells (by omega)
      have x0 := hcell j u 0 hu (by omega)
      have x1 := hcell j u 1 hu (by omega)
      have x2 := hcell j u 2 hu (by omega)
      have x3 := hcell j u 3 hu (by omega)
      have x4 := hcell j u 4 hu (by omega)
      have x5 := hcell j u 5 hu (by omega)
      have y0 := hcell2 j v 0 hv (by omega)
      have y1 := hcell2 j v 1 hv (by omega)
      have y2 := hcell2 j v 2 hv (by omega)
      have y3 := hcell2 j v 3 hv (by omega)
      have y4 := hcell2 j v 4 hv (by omega)
      have y5 := hcell2 j v 5 hv (by omega)
      obtain ⟨hIu, hlu⟩ := hA1.each j u hu
      obtain ⟨hIv, hlv⟩ := hB1.each j v hv
      rw [← huv] at hIv
      simp only [RV.cells, ← huv, Nat.add_zero, List.getElem?_cons_zero, List.getElem?_cons_succ] at x0 x1 x2 x3 x4 x5 y0 y1 y2 y3 y4 y5
      have HIU := (show Hid (IntsAt w1 u.la u.o.L ∧ IntsAt w1 v.la u.o.L) from ⟨hIu, hIv⟩)
      obtain ⟨m, hm⟩ : ∃ m, u.o.L.length = m := ⟨_, rfl⟩
      have HM := (show Hid (u.o.L.length = m) from hm)
      rw [hm] at x5 y5 hlu
      clear hA1 hB1 hcell hcell2 hIu hIv huv hu hv hm hlv
      generalize u.o.a = qa at *
      generalize u.o.k = qk at *
      generalize u.o.c = qc at *
      generalize u.o.l = ql at *
      generalize u.o.f = qf at *
      go_wp2_with fail
      go_quiet (first | (go_at_call 22; exact Calls.quiet_of (same_q u.la v.la m u.lc v.lc u.o.L _ (HIU.out.1.keep (Keep.drewN [] _ _) (by simp [Off])) (HIU.out.2.keep (Keep.drewN [] _ _) (by simp [Off])) HM.out hlu)))
      have hK7 := hK.trans (Keep.drewN [] w1 nq)
      generalize w1.drewN nq = w7 at *
      go_wp2_with fail
      go_roundw
      case rel => exact ⟨j + 1, by go_num, by omega, hK7⟩
      case measure => simp [intOf]; omega
    · obtain rfl : j = n := by omega
      go_wp2_with fail
      go_ret
      exact ⟨rfl, hK⟩

end Go.Proofs.YtamcoejlghfleaaGreat

/-
  The document's own heap: Objects.
-/
namespace Go.Proofs.YtamcoejlghfleaaGreat
open Go.RowKit

/-- A list of objects that was made since w0. -/
structure RObjsAt (w0 w : World) (va : Option Addr) (n vc : Nat) (vs : List RV) : Prop where
  own : w.ownsRow w0.heap.size 86 6 (.slice va n vc) n (flatR vs)
  len : vs.length = n
  each : ∀ (i : Nat) (v : RV), vs[i]? = some v → IntsAt w v.la v.o.L ∧ v.o.L.length ≤ 1000000 ∧ ∀ a, v.la = some a → w0.heap.size ≤ a.block ∧ a.block < w.heap.size ∧ ∀ b, va = some b → b.block ≠ a.block
theorem RObjsAt.nil (w0 w : World) : RObjsAt w0 w none 0 0 [] := ⟨World.ownsRow_nil _ _ _ _, rfl, fun i v h => by simp at h⟩
theorem RObjsAt.keep0 {w0 w w' : World} {va : Option Addr} {n vc : Nat} {vs : List RV} (h : RObjsAt w0 w va n vc vs) (K : Keep [] w w') : RObjsAt w0 w' va n vc vs := by
  refine ⟨⟨h.own.1, ?_⟩, h.len, fun i v e => ?_⟩
  · rcases h.own.2 with h1 | ⟨g, cap, cur, h1, h2, h3, h4⟩
    · exact .inl h1
    · exact .inr ⟨g, cap, cur, h1, h2, K.blk h3 (by simp), h4⟩
  · obtain ⟨h1, h2, h3⟩ := h.each i v e
    exact ⟨h1.keep K (fun _ _ _ => by simp), h2, fun a e => ⟨(h3 a e).1, Nat.lt_of_lt_of_le (h3 a e).2.1 K.size, (h3 a e).2.2⟩⟩
theorem RObjsAt.read {w0 w : World} {va : Option Addr} {n vc : Nat} {vs : List RV} (h : RObjsAt w0 w va n vc vs) : ObjL w va n vs :=
  ⟨h.len, own_cells h.own h.len, fun i v e => ⟨(h.each i v e).1, (h.each i v e).2.1⟩⟩
theorem RObjsAt.far {w0 w : World} {va : Option Addr} {n vc : Nat} {vs : List RV} (h : RObjsAt w0 w va n vc vs) (k : Nat) (e : (Value.slice va n vc).ownBlock = some k) : w0.heap.size ≤ k ∧ k < w.heap.size ∧ ∃ a, va = some a ∧ a.block = k := by
  rcases h.own.2 with ⟨h1, _⟩ | ⟨g, cap, cur, h1, h2, h3, _⟩
  · rw [h1] at e; cases e
  · rw [h1] at e; cases e; cases h1; exact ⟨h2, lt_of_block h3, _, rfl, rfl⟩
theorem RObjsAt.grow {w0 w w4 : World} {va : Option Addr} {n vc : Nat} {vs : List RV} {ob : Obj} (h : RObjsAt w0 w va n vc vs) (K : Keep [] w0 w) (hg : (w.alloc ob).grownBy w4 (Value.slice va n vc).ownBlock) : Keep [] w0 w4 :=
  (K.trans (Keep.alloc [] w ob)).grown hg (fun k e => (h.far k e).1)
theorem RObjsAt.added {w0 w w4 : World} {va la : Option Addr} {n vc g cap lc : Nat} {vs : List RV} {o : OM} {ob : Obj} (h : RObjsAt w0 w va n vc vs) (hI : IntsAt w la o.L) (hL : o.L.length ≤ 1000000) (hla : ∀ a, la = some a → w0.heap.size ≤ a.block ∧ a.block < w.heap.size ∧ ∀ b, va = some b → b.block ≠ a.block)
    (hown : w4.ownsRow w0.heap.size 86 6 (.slice (some ⟨g, 0, none⟩) (n + 1) cap) (n + 1) (flatR vs ++ RV.cells ⟨o, la, lc⟩)) (hg : (w.alloc ob).grownBy w4 (Value.slice va n vc).ownBlock) (hat : (Value.slice va n vc).ownBlock = some g ∨ g = w.heap.size + 1) :
    RObjsAt w0 w4 (some ⟨g, 0, none⟩) (n + 1) cap (vs ++ [⟨o, la, lc⟩]) := by
  have ints : ∀ (ao : Option Addr) (M : List Int), IntsAt w ao M → (∀ a, ao = some a → a.block < w.heap.size ∧ ∀ b, va = some b → b.block ≠ a.block) → IntsAt w4 ao M ∧ ∀ a, ao = some a → a.block < w4.heap.size ∧ g ≠ a.block := by
    intro ao M hM ha
    have hne : ∀ a, ao = some a → (Value.slice va n vc).ownBlock ≠ some a.block := fun a e e' => by
      obtain ⟨_, _, b, e1, e2⟩ := h.far _ e'
      exact (ha a e).2 b e1 e2
    refine ⟨⟨fun h0 => ?_, hM.low, hM.high⟩, fun a e => ⟨Nat.lt_of_lt_of_le (ha a e).1 (Nat.le_trans (by simp) hg.size), fun e' => ?_⟩⟩
    · obtain ⟨b, off, rfl, hb, hc⟩ := hM.cells h0
      have e : w4.heap[b]? = w.heap[b]? := (hg.block b (by simp; omega) (fun e => hne _ rfl e.symm)).trans (Below.heap_alloc _ _ _ hb)
      exact ⟨b, off, rfl, Nat.lt_of_lt_of_le hb (Nat.le_trans (by simp) hg.size), fun i hi => (World.cell?_of_block (w := w) e).trans (hc i hi)⟩
    · rcases hat with e2 | e2
      · exact hne a e (by rw [e2, e'])
      · have := (ha a e).1; omega
  refine ⟨by rw [flatR_app, flatR_one]; exact hown, by simp [h.len], fun i v e => ?_⟩
  rcases Nat.lt_trichotomy i vs.length with hi | hi | hi
  · rw [List.getElem?_append_left hi] at e
    obtain ⟨h1, h2, h3⟩ := h.each i v e
    obtain ⟨r1, r2⟩ := ints _ _ h1 (fun a e => (h3 a e).2)
    exact ⟨r1, h2, fun a e => ⟨(h3 a e).1, (r2 a e).1, fun b eb => by cases eb; exact (r2 a e).2⟩⟩
  · subst hi
    simp at e
    subst e
    obtain ⟨r1, r2⟩ := ints _ _ hI (fun a e => (hla a e).2)
    exact ⟨r1, hL, fun a e => ⟨(hla a e).1, (r2 a e).1, fun b eb => by cases eb; exact (r2 a e).2⟩⟩
  · rw [List.getElem?_eq_none (by simp; omega)] at e; cases e

section
variable {w0 : World} {F0 : List Nat} {hb : Nat} {ws : List Int} {kd : List PK} {ds : List (Int × List Int)}
theorem words_at {w : World} {gw n : Nat} {ws : List Int} (hc : ∀ i, i < n → w.cell? ⟨gw, i, none⟩ = some (.int .i64 (ws[i]?.getD 0))) (hb : ∀ i : Nat, inI (ws[i]?.getD 0)) (b b1 q : Nat) (h1 : b + 1 = b1) (h2 : b1 + q ≤ n) : IntsAt w (some ⟨gw, b1, none⟩) (wordsL ws b (q : Int)) := by
  refine ⟨fun h0 => ⟨gw, b1, rfl, ?_, fun i hi => ?_⟩, fun i => (wordsL_bd hb b q i).1, fun i => (wordsL_bd hb b q i).2⟩
  · rw [wordsL_length, Int.toNat_natCast] at h0
    exact lt_of_cell2 (hc b1 (by omega))
  · rw [wordsL_length, Int.toNat_natCast] at hi
    rw [hc (b1 + i) (by omega), wordsL_get _ _ _ i (by rw [Int.toNat_natCast]; exact hi), h1]
set_option maxRecDepth 100000 in
set_option maxHeartbeats 3200000 in
theorem robjects (w : World) (h : Has w0 F0 (rheapA hb ws kd ds) w) :
    Calls Tryz.prog 21 #[.pointer (some ⟨hb, 0, none⟩)] w fun e w' => ∃ va vc vs, e = .returned (.slice va (eachK kd).length vc) ∧ ObjL w' va (eachK kd).length vs ∧ vs.map RV.o = objsK kd ws ∧ Keep [] w w' := by
  obtain ⟨i0, hi, hz0, hz1, hz2⟩ := info_parts Tryz.infoObj
  have hI : Hid (Tryz.prog.info? 86 = some i0 ∧ i0.zero = some (.agg #[.int .i64 0, .int .i64 0, .int .i64 0, .int .i64 0, .bool false, .slice none 0 0]) ∧ i0.size = 6 ∧ i0.bytes = 64) := ⟨hi, hz0, hz1, hz2⟩
  clear hi hz0 hz1 hz2
  obtain ⟨j0, hi, hz0, hz1, hz2⟩ := info_parts Tryz.infoIntC
  have hJ : Hid (Tryz.prog.info? 3 = some j0 ∧ j0.zero = some (.int .i64 0) ∧ j0.size = 1 ∧ j0.bytes = 8) := ⟨hi, hz0, hz1, hz2⟩
  clear hi hz0 hz1 hz2
  obtain ⟨mb, hr⟩ := h.rraw
  have hfi := h.rfine
  have HX := (show Hid (Has w0 F0 (rheapA hb ws kd ds) w) from h)
  have HR := (show Hid (Has w0 F0 (rrawA hb mb ws kd ds) w) from hr)
  have HF := (show Hid (Fine ws kd ds) from hfi)
  obtain ⟨c0, _⟩ := hr.rcells
  have hnb : (eachK kd).length ≤ 32 * kd.length := hfi.wf.each_len kd.length
  have hn2 := hfi.wf.len2
  obtain ⟨n, hn⟩ : ∃ n, (eachK kd).length = n := ⟨_, rfl⟩
  have HN := (show Hid ((eachK kd).length = n) from hn)
  rw [hn] at hnb ⊢
  obtain ⟨N6, hN6⟩ : ∃ N6, 64 * kd.length = N6 := ⟨_, rfl⟩
  have HN6 := (show Hid (64 * kd.length = N6) from hN6)
  have hN6b : N6 ≤ 16384 := by omega
  clear h hr hfi hn hN6
  go_enter Tryz.func21, Tryz.ntmps21
  go_wp2_with (first | (go_at_call 50; refine (yeach _ HR.out HF.out.wf).mono ?_; rw [HN.out]; rintro e w1 ⟨la, lc, rfl, hIn, hK1⟩))
  have HI := (show Hid (IntsAt w1 la (eachK kd)) from hIn)
  clear hIn
  go_loopw [3, 5] (fun v i wr => ∃ (j : Nat) (va : Option Addr) (vc : Nat) (vs : List RV), v = .slice va j vc ∧ i = .int .i64 j ∧ j ≤ n ∧ Hid (RObjsAt w1 wr va j vc vs) ∧ Hid (vs.map RV.o = (objsK kd ws).take j) ∧ Keep [] w1 wr) (fun _ i _ => n - (intOf i).toNat)
  case atStart => exact ⟨0, none, 0, [], rfl, rfl, by omega, RObjsAt.nil _ _, by show _ = _; simp, Keep.refl _ _⟩
  case round =>
    obtain ⟨j, va, vc, vs, rfl, rfl, hj, HO, HM, hK⟩ := hrel
    have hKw := hK1.trans hK
    by_cases hlt : j < n
    · obtain ⟨b, m, k, c, l, f, he, hA, hlm, hob⟩ := each_at9 HF.out j (by rw [HN.out]; exact hlt)
      obtain ⟨p, off, rfl, hps, hcell⟩ := HI.out.cells (by rw [HN.out]; omega)
      have hc := (hK.cell hps (by simp) (off + j)).trans (hcell j (by rw [HN.out]; exact hlt))
      rw [he] at hc
      simp only [Option.getD_some] at hc
      have HNX := (show Hid ((objsK kd ws).take (j + 1) = (objsK kd ws).take j ++ [⟨b, k, c, l, f, wordsL ws b l⟩]) from by
        show _ = _
        have : (objsK kd ws)[j]? = some ⟨b, k, c, l, f, wordsL ws b l⟩ := by unfold objsK; rw [List.getElem?_map, he, ← hob]; rfl
        rw [List.take_add_one, this]; rfl)
      obtain ⟨_, e1, e2, e3, e4, e5⟩ := hA.facts HF.out.wf
      have hbd := hA.2.2.bd
      obtain ⟨q, hq⟩ := Int.eq_ofNat_of_zero_le hbd.2.2.2.2.1
      subst hq
      have HT := (show Hid (HeadT kd ws (b : Int) k c (q : Int) f 0) from .yes b m k c q f hA)
      have HL := (show Hid ((wordsL ws b (q : Int)).length = q) from by show _ = _; rw [wordsL_length]; rfl)
      obtain ⟨b1, hb1⟩ : ∃ b1 : Nat, b + 1 = b1 := ⟨_, rfl⟩
      obtain ⟨b2, hb2⟩ : ∃ b2 : Nat, b1 + q = b2 := ⟨_, rfl⟩
      have hb1i : (b : Int) + 1 = b1 := by omega
      have hb2i : (b1 : Int) + q = b2 := by omega
      have hb2l : b2 ≤ N6 := by have := HN6.out; omega
      have HBB := (show Hid (b + 1 = b1 ∧ b1 + q = b2) from ⟨hb1, hb2⟩)
      have hw1 : IntKind.i64.wrap (b1 : Int) = b1 := IntWalk.i64_in _ (by omega)
      have hw2 : IntKind.i64.wrap (b2 : Int) = b2 := IntWalk.i64_in _ (by omega)
      have hz1 : (0 : Int) ≤ (b1 : Int) := by omega
      have hz2 : (0 : Int) ≤ (b2 : Int) := by omega
      have hz3 : (b1 : Int) ≤ (b2 : Int) := by omega
      have hz4 : (b2 : Int) ≤ (N6 : Int) := by omega
      have hz5 : b1 ≤ b2 := by omega
      have hsq : b2 - b1 = q := by omega
      have hbb : b ≤ 20000 := by omega
      have hq3 : q ≤ 1023 := by omega
      clear hcell hA hbd he hob hlm e1 e2 e3 e4 e5 hb1 hb2
      go_upto_region 7 with (first | (go_at_call 39; refine (rhead b k c q 0 f _ (HX.out.keep0 hKw) HT.out).mono ?_; rintro e w3 ⟨rfl, hK3⟩))
      have hx3 := heap_alloc_new w3 (.cells #[.int .i64 k, .int .i64 c, .int .i64 q, .bool f, .bool (okE 0)] 79)
      have hKx := hK3.trans (Keep.alloc [] w3 (.cells #[.int .i64 k, .int .i64 c, .int .i64 q, .bool f, .bool (okE 0)] 79))
      have hK4 := hKw.trans hKx
      have hK4b := hK.trans hKx
      have hO4 := HO.out.keep0 hKx
      have hva : ∀ a, va = some a → a.block ≠ w3.heap.size := by
        intro a e
        rcases HO.out.own.2 with ⟨h1, _⟩ | ⟨g, cap, cur, h1, h2, h3, _⟩
        · cases h1; cases e
        · cases h1; cases e
          have := lt_of_block h3
          have := hK3.size
          show g ≠ _
          omega
      have HVA := (show Hid (∀ a, va = some a → a.block ≠ w3.heap.size) from hva)
      clear hva
      generalize w3.alloc (.cells #[.int .i64 k, .int .i64 c, .int .i64 q, .bool f, .bool (okE 0)] 79) = w4 at *
      generalize w3.heap.size = bx at *
      obtain ⟨_, x0, x1, x2, x3, _⟩ := five_free hx3
      obtain ⟨q0, _, ⟨gw, q1, q2⟩, _⟩ := (HR.out.keep0 hK4).rcells
      rw [HN6.out] at q1 q2
      have hc4 := (hKx.cell (lt_of_cell2 hc) (by simp) (off + j)).trans hc
      have hKE := (Keep.alloc [] w4 (.cells #[] 3)).trans (Keep.drew [] _)
      have HOE := (show Hid (((w4.alloc (.cells #[] 3)).drew).ownsRow w4.heap.size 3 1 (.slice (some ⟨w4.heap.size, 0, none⟩) 0 0) 0 (ints [])) from own_empty w4 3)
      obtain ⟨xo, hxo⟩ : ∃ xo, (if N6 = b1 then some (⟨gw, 0, none⟩ : Addr) else some ⟨gw, b1, none⟩) = xo := ⟨_, rfl⟩
      obtain ⟨xc, hxc⟩ : ∃ xc, N6 - b1 = xc := ⟨_, rfl⟩
      have HIW := (show Hid (IntsAt ((w4.alloc (.cells #[] 3)).drew) xo (wordsL ws b (q : Int)) ∧ (xo = none → xc = 0)) from by
        refine ⟨?_, fun e => by rw [e] at hxo; split at hxo <;> cases hxo⟩
        by_cases e : N6 = b1
        · have hq0 : q = 0 := by omega
          subst hq0
          exact IntsAt.nil _ _
        · rw [if_neg e] at hxo
          subst hxo
          exact (words_at (fun i hi => (q2 i hi).1) HF.out.ob.bd b b1 q HBB.out.1 (by omega)).keep hKE (fun _ _ _ => by simp))
      have HNV := (show Hid ((∀ B, B < w1.heap.size → B ∉ va.toList.map (·.block)) ∧ bx ∉ va.toList.map (·.block)) from ⟨fun B hB e => by
        simp at e
        obtain ⟨a, e1, e2⟩ := e
        have := (HO.out.far a.block (by rw [e1]; rfl)).1
        omega, fun e => by
        simp at e
        obtain ⟨a, e1, e2⟩ := e
        exact HVA.out a e1 e2⟩)
      have HLW := (show Hid (hb < w1.heap.size ∧ mb < w1.heap.size ∧ p < w1.heap.size) from by
        obtain ⟨r0, _, ⟨gw', r1, _⟩, _⟩ := (HR.out.keep0 hK1).rcells
        exact ⟨lt_of_cell2 r0, lt_of_cell2 r1, hps⟩)
      have HLL := (show Hid ((wordsL ws b (q : Int)).length ≤ 1000000) from by show _ ≤ _; rw [HL.out]; omega)
      have hm1 : j + 1 ≤ maxLen := by unfold maxLen; omega
      have hm2 : (j + 1) * 64 ≤ 140737488355328 := by omega
      clear q2 hc hK3 hKx HVA
      go_region_held3 (fun wz => wz.cell? ⟨hb, 0, none⟩ = some (.pointer (some ⟨mb, 0, none⟩)) ∧ wz.cell? ⟨mb, 0, none⟩ = some (.slice (some ⟨gw, 0, none⟩) N6 N6) ∧ wz.cell? ⟨p, off + j, none⟩ = some (.int .i64 b) ∧ wz.cell? ⟨bx, 0, none⟩ = some (.int .i64 k) ∧ wz.cell? ⟨bx, 1, none⟩ = some (.int .i64 c) ∧ wz.cell? ⟨bx, 2, none⟩ = some (.int .i64 q) ∧ wz.cell? ⟨bx, 3, none⟩ = some (.bool f)) (go_keep) (first
        | (refine step_append_own0 rfl (.tmp 31) (.tmp 53) 23 rfl w4.heap.size 3 j0 Tryz.underlying23 hJ.out (wordsL ws b (q : Int)) w4.heap.size rfl HOE.out (by simp) xo q xc HL.out rfl HIW.out.1 HIW.out.2 (by omega) ?_; intro la2 lc2 w6 hG1 hG2 hG3 hgr; have hK6 : Keep [] w4 w6 := (hKE.grown hgr (fun k e => by cases e; exact Nat.le_refl _)); have y0 := (hK6.cell (lt_of_cell2 q0) (by simp) 0).trans q0; have y1 := (hK6.cell (lt_of_cell2 q1) (by simp) 0).trans q1; have y2 := (hK6.cell (lt_of_cell2 hc4) (by simp) (off + j)).trans hc4; have y3 := (hK6.cell (lt_of_cell2 x0) (by simp) 0).trans x0; have y4 := (hK6.cell (lt_of_cell2 x1) (by simp) 1).trans x1; have y5 := (hK6.cell (lt_of_cell2 x2) (by simp) 2).trans x2; have y6 := (hK6.cell (lt_of_cell2 x3) (by simp) 3).trans x3; have HO6 := (show Hid (RObjsAt w1 w6 va j vc vs ∧ Keep [] w1 w6) from ⟨hO4.keep0 hK6, hK4b.trans hK6⟩); have HZ := (show Hid (IntsAt w6 la2 (wordsL ws b (q : Int)) ∧ (∀ a, la2 = some a → w1.heap.size ≤ a.block ∧ a.block < w6.heap.size ∧ ∀ z, va = some z → z.block ≠ a.block)) from ⟨hG1, fun a e => ⟨by have := (hG3 a e).1; have := hK4b.size; omega, (hG3 a e).2, fun z ez => by have := (hG3 a e).1; have := (hO4.far z.block (by rw [ez]; rfl)).2.1; omega⟩⟩); have HCE := (show Hid (RV.cells ⟨⟨b, k, c, q, f, wordsL ws b (q : Int)⟩, la2, lc2⟩ = [.int .i64 b, .int .i64 k, .int .i64 c, .int .i64 q, .bool f, .slice la2 q lc2]) from (by show _ = _; unfold RV.cells; rw [HL.out])); have HOA := (show Hid ((w6.alloc (.cells #[.int .i64 b, .int .i64 k, .int .i64 c, .int .i64 q, .bool f, .slice la2 q lc2] 86)).ownsRow w1.heap.size 86 6 (.slice va j vc) j (flatR vs) ∧ w1.heap.size ≤ (w6.alloc (.cells #[.int .i64 b, .int .i64 k, .int .i64 c, .int .i64 q, .bool f, .slice la2 q lc2] 86)).heap.size) from ⟨(HO6.out.1.keep0 (Keep.alloc [] w6 (.cells #[.int .i64 b, .int .i64 k, .int .i64 c, .int .i64 q, .bool f, .slice la2 q lc2] 86))).own, by have := HO6.out.2.size; simp; omega⟩); clear hG1 hG2 hG3 hgr hK6)
        | (refine step_append_lies (w6.alloc (.cells #[.int .i64 b, .int .i64 k, .int .i64 c, .int .i64 q, .bool f, .slice la2 q lc2] 86)) rfl (.tmp 24) (.tmp 56) 56 rfl w1.heap.size 86 i0 (.agg #[.int .i64 0, .int .i64 0, .int .i64 0, .int .i64 0, .bool false, .slice none 0 0]) 6 64 Tryz.underlying56 hI.out.1 hI.out.2.1 hI.out.2.2.1 hI.out.2.2.2 rfl (by decide) (.slice va j vc) j (flatR vs) rfl HOA.out.1 ⟨w6.heap.size, 0, none⟩ 1 1 [.int .i64 b, .int .i64 k, .int .i64 c, .int .i64 q, .bool f, .slice la2 q lc2] rfl rfl (World.news_of_block (heap_alloc_new w6 (.cells #[.int .i64 b, .int .i64 k, .int .i64 c, .int .i64 q, .bool f, .slice la2 q lc2] 86))) (oneCells6 b k c q f la2 q lc2) Nat.one_pos hm1 hm2 HOA.out.2 (w6.heap.size + 1) (by simp) ?_; intro g cap w7 hown hgrow hat hltg; have HADD := (show Hid (RObjsAt w1 w7 (some ⟨g, 0, none⟩) (j + 1) cap (vs ++ [⟨⟨b, k, c, q, f, wordsL ws b (q : Int)⟩, la2, lc2⟩]) ∧ Keep [] w1 w7) from ⟨HO6.out.1.added (o := ⟨b, k, c, q, f, wordsL ws b (q : Int)⟩) HZ.out.1 (show (wordsL ws b (q : Int)).length ≤ 1000000 from HLL.out) HZ.out.2 (by rw [HCE.out]; exact hown) hgrow hat, HO6.out.1.grow HO6.out.2 hgrow⟩); have K67 := (Keep.alloc (va.toList.map (·.block)) w6 (.cells #[.int .i64 b, .int .i64 k, .int .i64 c, .int .i64 q, .bool f, .slice la2 q lc2] 86)).trans (grown_keep hgrow); have z0 := (K67.cell (lt_of_cell2 y0) (HNV.out.1 _ HLW.out.1) 0).trans y0; have z1 := (K67.cell (lt_of_cell2 y1) (HNV.out.1 _ HLW.out.2.1) 0).trans y1; have z2 := (K67.cell (lt_of_cell2 y2) (HNV.out.1 _ HLW.out.2.2) (off + j)).trans y2; have z3 := (K67.cell (lt_of_cell2 y3) HNV.out.2 0).trans y3; have z4 := (K67.cell (lt_of_cell2 y4) HNV.out.2 1).trans y4; have z5 := (K67.cell (lt_of_cell2 y5) HNV.out.2 2).trans y5; have z6 := (K67.cell (lt_of_cell2 y6) HNV.out.2 3).trans y6; clear hown hgrow hat hltg K67))
      go_wp2_with fail
      go_roundw
      case rel => exact ⟨j + 1, _, _, _, rfl, by go_num, by omega, HADD.out.1, (by show _ = _; rw [HNX.out, List.map_append, HM.out]; rfl), HADD.out.2⟩
      case measure => simp [intOf]; omega
    · obtain rfl : j = n := by omega
      have HMM := (show Hid (vs.map RV.o = objsK kd ws) from by
        show _ = _
        rw [HM.out, List.take_of_length_le (by rw [objsK_length, HN.out]; omega)])
      have HRD := (show Hid (ObjL wr va j vs) from HO.out.read)
      go_wp2_with fail
      go_ret
      exact ⟨va, vc, vs, rfl, HRD.out, HMM.out, hKw⟩
end

end Go.Proofs.YtamcoejlghfleaaGreat

/-
  The program's queues beside the document's own references, in memory.
-/
namespace Go.Proofs.YtamcoejlghfleaaGreat
open Go.RowKit

/-- Both sides, the list of all references, and the list of those that are in queues. -/
def DD (qb hb rb mb : Nat) (kd : List PK) (ws : List Int) (Ls : List (List Int)) (lb lo : Nat) (A : Nat → Nat) (la : Option Addr) (q c : Nat) (I : List Int) : Asn :=
  (((queueA qb hb ws kd [] Ls).star (refsA rb mb 0 ws kd [] Ls)).star (listA (some ⟨lb, lo, none⟩) (aL A 12))).star (ownA 3 la q c I)
section
variable {w0 w : World} {F0 : List Nat} {A B C D : Asn}
theorem has_d1 {P : Program} {f : FuncId} {args : Array Value} {A' : Asn} {Q : Ending → World → Prop} (h : Has w0 F0 (((A.star B).star C).star D) w) (hc : ∀ F, Has w F A w → Calls P f args w fun e w' => Q e w' ∧ Has w F A' w') :
    Calls P f args w fun e w' => Q e w' ∧ Has w0 F0 (((A'.star B).star C).star D) w' :=
  has_left h (fun _ h => has_left h (fun _ h => has_left h hc))
theorem has_d2 {P : Program} {f : FuncId} {args : Array Value} {B' : Asn} {Q : Ending → World → Prop} (h : Has w0 F0 (((A.star B).star C).star D) w) (hc : ∀ F, Has w F B w → Calls P f args w fun e w' => Q e w' ∧ Has w F B' w') :
    Calls P f args w fun e w' => Q e w' ∧ Has w0 F0 (((A.star B').star C).star D) w' :=
  has_left h (fun _ h => has_left h (fun _ h => has_right h hc))
/-- References of a heap, none as yet. -/
theorem Has.refsNew {mb : Nat} {ws : List Int} {kd : List PK} {ds : List (Int × List Int)} (h : Has w0 F0 (A.star (rheapA mb ws kd ds)) w) : Has w0 F0 (A.star (refsA w.heap.size mb 0 ws kd ds [])) (w.alloc (rObj mb 0 none 0 0)) := by
  have h1 := (h.newB (rObj mb 0 none 0 0)).llNew
  have h2 := h1.assoc.assoc
  refine h2.map (fun F g => star_mono (fun F g => ?_) g)
  exact ⟨⟨none, 0, star_comm g⟩, by simp, by simp⟩
end

end Go.Proofs.YtamcoejlghfleaaGreat

/-
  Model of gloaminglaw13: the document's own references.
-/
namespace Go.Proofs.YtamcoejlghfleaaGreat
open Go.RowKit

set_option maxRecDepth 100000 in
set_option maxHeartbeats 6400000 in
theorem model13 {w0 : World} {F0 : List Nat} {B : Asn} (n N k : Nat) {W : Nat → List Int} {K : Nat → List PK} {A : Nat → Nat} (hC : DChain N W K A) (hn : n ≤ N) (hN : N ≤ 30) (hk : k ≤ 8) (w : World) (hB : Has w0 F0 B w) :
    Calls Tryz.prog 5 #[.int .i64 n, .int .i64 k] w fun e w' => ∃ rb mb, e = .returned (.pointer (some ⟨rb, 0, none⟩)) ∧ Has w0 F0 (B.star (refsA rb mb 0 (W n) (K n) [] (nQ k))) w' := by
  have HC := hid hC
  have HB := hid hB
  clear hC hB
  go_enter Tryz.func5, Tryz.ntmps5
  go_wp2_with fail
  refine (rnewheap 40 HB.out (by omega) (by omega)).mono ?_
  rintro e w1 ⟨mb, rfl, hX⟩
  go_upto_region 2 with fail
  have HX0 := (show Hid (Has w0 F0 (B.star (refsA w1.heap.size mb 0 (W 0) (K 0) [] (nQ 0))) (w1.alloc (rObj mb 0 none 0 0))) from by show Has _ _ _ _; rw [HC.out.w0, HC.out.k0]; exact hX.refsNew)
  clear hX HB
  unfold rObj at HX0
  generalize w1.alloc (.cells #[.pointer (some ⟨mb, 0, none⟩), .slice none 0 0, .int .i64 0] 52) = w2 at *
  generalize w1.heap.size = rb at *
  go_wp2_with fail
  go_loopw [6] (fun i wr => ∃ j : Nat, i = .int .i64 j ∧ j ≤ n ∧ Hid (Has w0 F0 (B.star (refsA rb mb 0 (W j) (K j) [] (nQ 0))) wr)) (fun i _ => n - (intOf i).toNat)
  case atStart => exact ⟨0, rfl, by omega, HX0⟩
  case round =>
    obtain ⟨j, rfl, hj, HX⟩ := hrel
    obtain ⟨w2, rfl⟩ : ∃ w2, w2 = wr := ⟨_, rfl⟩
    clear HX0
    by_cases hlt : j < n
    · have hd : decide (j < n) = true := decide_eq_true hlt
      have HT := hid (HC.out.step j (by omega))
      obtain ⟨c0, _⟩ := HX.out.snd.fpart
      go_wp2_with fail
      refine (has_right HX.out (fun F hF => has_fheap hF (fun F hF => rmake 3 0 2 _ 0 false _ _ _ hF HT.out))).mono ?_
      rintro e w3 ⟨rfl, hX3⟩
      have HX3 := hid hX3
      clear hX3 c0
      go_wp2_with fail
      go_roundw
      case rel => exact ⟨j + 1, by go_num, by omega, HX3⟩
      case measure => simp [intOf]; omega
    · obtain rfl : j = n := by omega
      have HX1 := hid HX.out
      clear HX hlt
      go_wp2_with fail
      go_loopw [7] (fun i wr => ∃ t : Nat, i = .int .i64 t ∧ t ≤ k ∧ Hid (Has w0 F0 (B.star (refsA rb mb 0 (W j) (K j) [] (nQ t))) wr)) (fun i _ => k - (intOf i).toNat)
      case atStart => exact ⟨0, rfl, by omega, HX1⟩
      case round =>
        obtain ⟨t, rfl, ht, HX⟩ := hrel
        obtain ⟨w5, rfl⟩ : ∃ w5, w5 = wr := ⟨_, rfl⟩
        clear HX1
        by_cases hlt : t < k
        · have hd : decide (t < k) = true := decide_eq_true hlt
          go_wp2_with fail
          refine (has_right HX.out (fun F hF => fopen_yes _ hF (by rw [nQ_length]; omega))).mono ?_
          rintro e w6 ⟨rfl, hX6⟩
          rw [nQ_more] at hX6
          have HX6 := hid hX6
          clear hX6
          go_wp2_with fail
          go_roundw
          case rel => exact ⟨t + 1, by go_num, by omega, HX6⟩
          case measure => simp [intOf]; omega
        · obtain rfl : t = k := by omega
          go_wp2_with fail
          go_ret
          exact ⟨rb, mb, rfl, HX.out⟩

end Go.Proofs.YtamcoejlghfleaaGreat

/-
  A list of bytes, opened once for all: what each element holds.
-/
namespace Go.Proofs.YtamcoejlghfleaaGreat
open Go.ChangeShapes Go.WideShapes Go.ChangeAt Go.RowKit

theorem lt_of_cell' {w : World} {b o : Nat} {v : Value} (h : w.cell? ⟨b, o, none⟩ = some v) : b < w.heap.size := by
  rcases Nat.lt_or_ge b w.heap.size with h' | h'
  · exact h'
  · simp [World.cell?, Array.getElem?_eq_none h'] at h

section
variable {H : Type} {enc : TypeId × Value → H} {P : Program} {w : World} {base : Nat} {spare : Nat → Bool} {held : Bool}

theorem open_u8s {t e : TypeId} {fuel len cap : Nat} {ao : Option Addr} {x : DataW H × List MemPlace} (ht : P.underlying t = some (.slice e)) (he : P.underlying e = some (.int .u8))
    (ce : P.cellsOf e = 1) (h : DataW.trod enc P w base spare held fuel t [.slice ao len cap] = some x) :
    len ≤ 9223372036854775807 ∧ ∃ A, U8At w ao len A := by
  rcases Go.Deep.open_slice1 ht ce h with ⟨h0, _⟩ | ⟨a, len', cap', m, n, V, D, Pl, hcs, hb, hl, hm, hmm, _, hx⟩
  · simp at h0
    obtain ⟨rfl, rfl, rfl⟩ := h0
    exact ⟨by omega, fun _ => 0, fun h => by omega, by simp⟩
  · simp at hcs
    obtain ⟨rfl, rfl, rfl⟩ := hcs
    unfold maxLen at hm
    refine ⟨by omega, ?_⟩
    have hlm : len ≤ m := by rw [hmm]; split <;> omega
    have each : ∀ i, i < len → ∃ z : Nat, w.cell? (a.add i) = some (.int .u8 z) ∧ z < 256 := by
      intro i hi
      obtain ⟨h1, h2⟩ := hx i (by omega)
      obtain ⟨z, hz, _, hw⟩ := DataW.trod_int he h2
      have hz' : V i = .int .u8 z := by simpa using hz
      have hb := bounds_u8 hw
      obtain ⟨k, rfl⟩ := Int.eq_ofNat_of_zero_le hb.1
      exact ⟨k, by rw [h1, hz'], by omega⟩
    by_cases h0 : 0 < len
    · obtain ⟨b, off, spot⟩ := a
      obtain ⟨z, hz, _⟩ := each 0 h0
      have hspot : spot = none := by simpa [Addr.add] using World.cell?_spot hz
      subst hspot
      have each' : ∀ i, i < len → ∃ z : Nat, w.cell? ⟨b, off + i, none⟩ = some (.int .u8 z) ∧ z < 256 := fun i hi => by
        have := each i hi
        rwa [Go.WideShapes.add_plain] at this
      refine ⟨fun i => if i < len then (intOf ((w.cell? ⟨b, off + i, none⟩).getD undef)).toNat else 0, fun _ => ⟨b, off, rfl, ?_, ?_⟩, ?_⟩
      · obtain ⟨z, hz, _⟩ := each' 0 h0
        exact lt_of_cell' hz
      · intro i hi
        obtain ⟨z, hz, _⟩ := each' i hi
        simp [hi, hz, intOf]
      · intro i
        by_cases hc : i < len
        · obtain ⟨z, hz, hw⟩ := each' i hc
          simp only [hc, hz, intOf, if_true, Option.getD_some]; omega
        · rw [if_neg hc]; omega
    · exact ⟨fun _ => 0, fun h => absurd h h0, by simp⟩
end

end Go.Proofs.YtamcoejlghfleaaGreat

/-
  The program's references beside the document's own, in memory; what their calls leave of both.
-/
namespace Go.Proofs.YtamcoejlghfleaaGreat
open Go.RowKit

/-- Both sides, each as it stands, the objects, and the list of all references. -/
def DA (pb qb hb rb mb : Nat) (S S2 : Int) (kd kd2 : List PK) (ws ws2 : List Int) (Ls Ls2 : List (List Int)) (lb lo : Nat) (D : List Int) (la : Option Addr) (q c : Nat) (I : List Int) : Asn :=
  (((prefA pb qb hb S ws kd [] Ls).star (refsA rb mb S2 ws2 kd2 [] Ls2)).star (listA (some ⟨lb, lo, none⟩) D)).star (ownA 3 la q c I)
section
variable {w0 w : World} {F0 : List Nat} {pb qb hb rb mb : Nat} {S S2 : Int} {kd kd2 : List PK} {ws ws2 : List Int} {Ls Ls2 : List (List Int)} {lb lo : Nat} {D : List Int} {la : Option Addr} {q c : Nat} {I : List Int}
theorem Has.dacell (h : Has w0 F0 (DA pb qb hb rb mb S S2 kd kd2 ws ws2 Ls Ls2 lb lo D la q c I) w) (i : Nat) (hi : i < D.length) : w.cell? ⟨lb, lo + i, none⟩ = some (.int .i64 (D[i]?.getD 0)) := by
  obtain ⟨b, off, e, _, hcs⟩ := h.fst.snd.list.cells (by omega)
  cases e
  exact hcs i hi
theorem Has.dain (h : Has w0 F0 (DA pb qb hb rb mb S S2 kd kd2 ws ws2 Ls Ls2 lb lo D la q c I) w) (hI : inR I) : IntsAt w la I ∧ I.length = q := by
  obtain ⟨h1, h2, _⟩ := own_at h.snd.own hI
  exact ⟨h1, h2⟩
theorem plist {n : Nat} (j : Nat) (L : List Int) (w : World) (h : Has w0 F0 (prefA pb qb hb S ws kd [] Ls) w) (hL : Ls[j]? = some L) (hn : L.length = n) :
    Calls Tryz.prog 18 #[.pointer (some ⟨qb, 0, none⟩), .int .i64 j] w fun e w' => ∃ la lc, e = .returned (.tuple #[.slice la n lc, .int .i64 0]) ∧ IntsAt w' la L ∧ Keep [] w w' := by
  subst hn
  have hq := h.snd.qok.2 L (List.mem_of_getElem? hL)
  refine (qlist_yes j L w h.snd hL).mono ?_
  rintro e w' ⟨va, vc, rfl, ho, hK⟩
  exact ⟨va, vc, rfl, (own_at ho hq.2).1, hK⟩
theorem Has.frow {n j : Nat} {L : List Int} (h : Has w0 F0 (refsA rb mb S ws kd [] Ls) w) (hn : Ls.length = n) (hL : Ls[j]? = some L) : ∃ bb vc lq cc, w.cell? ⟨rb, 1, none⟩ = some (.slice (some ⟨bb, 0, none⟩) n vc) ∧ w.cell? ⟨bb, j, none⟩ = some (.slice lq L.length cc) ∧ IntsAt w lq L ∧ L.length ≤ 1000000 := by
  subst hn
  have hq := h.fok.2 L (List.mem_of_getElem? hL)
  obtain ⟨va, vc, hr⟩ := h.fraw
  have c1 := hr.fcells.2.1
  obtain ⟨bb, v, rfl, c2, _, hm, _⟩ := Has.grow hr hL
  obtain ⟨lq, cc, rfl⟩ := hm.form
  exact ⟨bb, vc, lq, cc, c1, c2, (hm.ints hq.2).1, hq.1⟩
/-- Both rows of the document's own, and what leads there. -/
theorem Has.frows {L0 L1 : List Int} (h : Has w0 F0 (refsA rb mb S ws kd [] [L0, L1]) w) : ∃ bb vc l0 c0 l1 c1, w.cell? ⟨rb, 0, none⟩ = some (.pointer (some ⟨mb, 0, none⟩)) ∧ w.cell? ⟨rb, 1, none⟩ = some (.slice (some ⟨bb, 0, none⟩) 2 vc) ∧ w.cell? ⟨bb, 0, none⟩ = some (.slice l0 L0.length c0) ∧ w.cell? ⟨bb, 1, none⟩ = some (.slice l1 L1.length c1) ∧ IntsAt w l0 L0 ∧ IntsAt w l1 L1 ∧ L0.length ≤ 1000000 ∧ L1.length ≤ 1000000 := by
  obtain ⟨bb, vc, l0, c0, h1, h2, h3, h4⟩ := h.frow (n := 2) (j := 0) (L := L0) rfl rfl
  obtain ⟨bb', vc', l1, c1, g1, g2, g3, g4⟩ := h.frow (n := 2) (j := 1) (L := L1) rfl rfl
  rw [h1] at g1
  injection g1 with g1
  injection g1 with g1 e2 e3
  injection g1 with g1
  injection g1 with g1
  subst g1
  exact ⟨bb, vc, l0, c0, l1, c1, h.fpart.1, h1, h2, g2, h3, g3, h4, g4⟩
theorem two_ints {g : Nat} {ty : TypeId} {x y : Int} (h : w.heap[g]? = some (.cells #[.int .i64 x, .int .i64 y] ty (0, 0))) (hx : inI x) (hy : inI y) (m : Nat) (hm : m ≤ 2) : IntsAt w (some ⟨g, 0, none⟩) ([x, y].take m) ∧ ([x, y].take m).length = m := by
  refine ⟨⟨fun _ => ⟨g, 0, rfl, lt_of_block h, fun i hi => ?_⟩, fun i => ?_, fun i => ?_⟩, by simp; omega⟩
  · have hi2 : i < 2 := by simp at hi; omega
    have him : i < m := by simp at hi; omega
    rcases (show i = 0 ∨ i = 1 by omega) with rfl | rfl <;> simp [World.cell?, h, him]
  · rw [List.getElem?_take]
    split
    · rcases i with _ | _ | i <;> simp <;> first | exact hx.1 | exact hy.1 | omega
    · simp
  · rw [List.getElem?_take]
    split
    · rcases i with _ | _ | i <;> simp <;> first | exact hx.2 | exact hy.2 | omega
    · simp
end
theorem sw13 (s : Nat) (_ : s < 8) : (((s : Int) == 0) = true ∨ ((s : Int) == 0) = false ∧ ((s : Int) == 1) = true ∨ ((s : Int) == 0) = false ∧ ((s : Int) == 1) = false ∧ ((s : Int) == 2) = true)
    ∨ (((s : Int) == 0) = false ∧ ((s : Int) == 1) = false ∧ ((s : Int) == 2) = false ∧ (((s : Int) == 3) = true ∨ ((s : Int) == 3) = false ∧ ((s : Int) == 4) = true))
    ∨ (((s : Int) == 0) = false ∧ ((s : Int) == 1) = false ∧ ((s : Int) == 2) = false ∧ ((s : Int) == 3) = false ∧ ((s : Int) == 4) = false ∧ ((s : Int) == 5) = true)
    ∨ (((s : Int) == 0) = false ∧ ((s : Int) == 1) = false ∧ ((s : Int) == 2) = false ∧ ((s : Int) == 3) = false ∧ ((s : Int) == 4) = false ∧ ((s : Int) == 5) = false ∧ ((s : Int) == 6) = true)
    ∨ (((s : Int) == 0) = false ∧ ((s : Int) == 1) = false ∧ ((s : Int) == 2) = false ∧ ((s : Int) == 3) = false ∧ ((s : Int) == 4) = false ∧ ((s : Int) == 5) = false ∧ ((s : Int) == 6) = false) := by
  simp only [beq_iff_eq, beq_eq_false_iff_ne]
  omega

end Go.Proofs.YtamcoejlghfleaaGreat
