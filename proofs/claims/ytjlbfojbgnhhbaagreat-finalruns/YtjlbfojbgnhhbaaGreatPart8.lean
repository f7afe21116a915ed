/-
  Contracts of what the statement calls, one text behind the other (In, FinT, StepInts, RFin, RFin2, Opens, ObjSame, RHeapObjs, Duo9, ChainM).
-/
import Derived.Test.YtjlbfojbgnhhbaaGreatRows
import Derived.Test.YtjlbfojbgnhhbaaGreatPart1
import Derived.Test.YtjlbfojbgnhhbaaGreatPart7
import Derived.Test.YtjlbfojbgnhhbaaGreatPart2
import Derived.Deep.RegionLaw
import Derived.Test.YtjlbfojbgnhhbaaGreatPart6
import Derived.Deep.CutRange
import Derived.ProofKit
import Derived.OpenShut
import Derived.Deep.Slices

/-
  In of the document's own words: what it answers.
-/
namespace Go.Proofs.YtjlbfojbgnhhbaaGreat
open Go.RowKit

/-- Whether a number is of a list. -/
def inL (L : List Int) (x : Int) : Bool := decide (x ∈ L)
theorem inL_yes {L : List Int} {x : Int} {j : Nat} (h : j < L.length) (e : L[j]?.getD 0 = x) : inL L x = true := by
  apply decide_eq_true
  rw [List.getElem?_eq_getElem h] at e
  simp at e
  subst e
  exact List.getElem_mem h
theorem inL_no {L : List Int} {x : Int} (h : ∀ j, j < L.length → L[j]?.getD 0 ≠ x) : inL L x = false := by
  apply decide_eq_false
  intro e
  obtain ⟨j, hj, e⟩ := List.getElem_of_mem e
  apply h j hj
  rw [List.getElem?_eq_getElem hj, e]; rfl
set_option maxHeartbeats 1600000 in
theorem rin (la : Option Addr) (n c : Nat) (L : List Int) (x : Int) (w : World) (hA : IntsAt w la L) (hn : L.length = n) (hb : n ≤ 1000000) :
    Calls Tryz.prog 35 #[.slice la n c, .int .i64 x] w fun e w' => e = .returned (.bool (inL L x)) ∧ w = w' := by
  have HA := hid hA
  have HN := hid hn
  clear hA hn
  go_enter Tryz.func35, Tryz.ntmps35
  go_wp2_with fail
  go_loop [5] (fun i => ∃ j : Nat, i = .int .i64 j ∧ j ≤ n ∧ Hid (∀ t, t < j → L[t]?.getD 0 ≠ x)) (fun i => n - (intOf i).toNat)
  case atStart => exact ⟨0, rfl, by omega, fun t ht => by omega⟩
  case round =>
    obtain ⟨j, rfl, hj, HJ⟩ := hrel
    by_cases hlt : j < n
    · have hd : decide (j < n) = true := decide_eq_true hlt
      obtain ⟨b, off, rfl, _, hcs⟩ := HA.out.cells (by have := HN.out; omega)
      have hc := hcs j (by have := HN.out; omega)
      have HY := (show Hid (L[j]?.getD 0 = x → inL L x = true) from fun e => inL_yes (by have := HN.out; omega) e)
      have HJ2 := (show Hid (L[j]?.getD 0 ≠ x → ∀ t, t < j + 1 → L[t]?.getD 0 ≠ x) from fun e t ht => by
        by_cases h : t < j
        · exact HJ.out t h
        · obtain rfl : t = j := by omega
          exact e)
      clear hcs
      generalize L[j]?.getD 0 = y at *
      by_cases hy : y = x
      · have hd2 : (y == x) = true := by rw [beq_iff_eq]; exact hy
        have HZ := (show Hid (inL L x = true) from HY.out hy)
        clear HY HJ2 hy
        go_wp2_with fail
        go_ret
        rw [HZ.out]; exact ⟨rfl, rfl⟩
      · have hd2 : (y == x) = false := by rw [beq_eq_false_iff_ne]; exact hy
        have HJ3 := (show Hid _ from HJ2.out hy)
        clear HY HJ2 hy
        go_wp2_with fail
        go_round
        case rel => exact ⟨j + 1, by go_num, by omega, HJ3⟩
        case measure => simp [intOf]; omega
    · obtain rfl : j = n := by omega
      have hd : decide (j < j) = false := decide_eq_false (by omega)
      have HZ := (show Hid (inL L x = false) from inL_no (fun t ht => HJ.out t (by have := HN.out; omega)))
      go_wp2_with fail
      go_ret
      rw [HZ.out]; exact ⟨rfl, rfl⟩

end Go.Proofs.YtjlbfojbgnhhbaaGreat

/-
  Finals, their mathematics: what Await, Pend and Take answer and leave of two lists; a list that was made since.
-/
namespace Go.Proofs.YtjlbfojbgnhhbaaGreat
open Go.RowKit

/-- What Await answers and leaves. -/
def awaitL (E : Int) (L : List Int) (a : Int) : List Int := if E = 0 then L ++ [a] else L
theorem inR_snoc {L : List Int} {a : Int} (h : inR L) (ha : inI a) : inR (L ++ [a]) := by
  intro i
  by_cases hi : i < L.length
  · rw [List.getElem?_append_left hi]; exact h i
  · rw [List.getElem?_append_right (by omega)]
    rcases (show i - L.length = 0 ∨ 1 ≤ i - L.length by omega) with e | e
    · rw [e]; exact ha
    · rw [List.getElem?_eq_none (by simpa using e)]; simp

/-- A list, but for a number. -/
def withoutL (L : List Int) (x : Int) : List Int := L.filter (fun y => decide (y ≠ x))
theorem withoutL_snoc (L : List Int) (x : Int) (j : Nat) (h : j < L.length) : withoutL (L.take (j + 1)) x = if L[j]?.getD 0 = x then withoutL (L.take j) x else withoutL (L.take j) x ++ [L[j]?.getD 0] := by
  have e : L.take (j + 1) = L.take j ++ [L[j]?.getD 0] := by rw [List.take_add_one]; simp [h]
  rw [e]
  unfold withoutL
  rw [List.filter_append]
  by_cases hx : L[j]?.getD 0 = x
  · rw [if_pos hx, List.filter_cons_of_neg (by simp [hx])]; simp
  · rw [if_neg hx, List.filter_cons_of_pos (by simp [hx])]; simp
theorem inR_without {L : List Int} (h : inR L) (x : Int) : inR (withoutL L x) := by
  intro i
  by_cases hi : i < (withoutL L x).length
  · have hm : (withoutL L x)[i]?.getD 0 ∈ L := by
      rw [List.getElem?_eq_getElem hi]
      exact (List.mem_filter.1 (List.getElem_mem hi)).1
    obtain ⟨j, hj, e⟩ := List.getElem_of_mem hm
    have := h j
    rw [List.getElem?_eq_getElem hj, e] at this
    exact this
  · rw [List.getElem?_eq_none (by omega)]; simp
theorem withoutL_le (L : List Int) (x : Int) : (withoutL L x).length ≤ L.length := List.length_filter_le _ _

/-- One number is made pending, if it waits. -/
def pend1 (s : List Int × List Int) (x : Int) : List Int × List Int := if inL s.1 x = true then (withoutL s.1 x, s.2 ++ [x]) else s
def pendL (L Q M : List Int) : List Int × List Int := M.foldl pend1 (L, Q)
theorem pendL_snoc (L Q M : List Int) (j : Nat) (h : j < M.length) : pendL L Q (M.take (j + 1)) = pend1 (pendL L Q (M.take j)) (M[j]?.getD 0) := by
  have e : M.take (j + 1) = M.take j ++ [M[j]?.getD 0] := by rw [List.take_add_one]; simp [h]
  rw [e]
  unfold pendL
  rw [List.foldl_append]; rfl
theorem pend1_le (s : List Int × List Int) (x : Int) : (pend1 s x).1.length ≤ s.1.length ∧ (pend1 s x).2.length ≤ s.2.length + 1 := by
  unfold pend1
  split
  · exact ⟨withoutL_le _ _, by simp⟩
  · exact ⟨Nat.le_refl _, Nat.le_succ _⟩
theorem pendL_le (L Q M : List Int) : (pendL L Q M).1.length ≤ L.length ∧ (pendL L Q M).2.length ≤ Q.length + M.length := by
  unfold pendL
  suffices h : ∀ s : List Int × List Int, (M.foldl pend1 s).1.length ≤ s.1.length ∧ (M.foldl pend1 s).2.length ≤ s.2.length + M.length from h (L, Q)
  induction M with
  | nil => intro s; simp
  | cons x M ih =>
    intro s
    have h1 := pend1_le s x
    have h2 := ih (pend1 s x)
    rw [List.foldl_cons, List.length_cons]
    omega

/-- What Take answers and leaves. -/
inductive TakeT (Q : List Int) (i : Int) : Int → Int → List Int → Prop
  | no : (i < 0 ∨ (Q.length : Int) ≤ i) → TakeT Q i 0 1 Q
  | yes (j : Nat) : i = j → j < Q.length → TakeT Q i (Q[j]?.getD 0) 0 (Q.take j ++ Q.drop (j + 1))
theorem takeT_ex (Q : List Int) (i : Int) : ∃ N E Q', TakeT Q i N E Q' := by
  by_cases h : i < 0 ∨ (Q.length : Int) ≤ i
  · exact ⟨_, _, _, .no h⟩
  · exact ⟨_, _, _, .yes i.toNat (by omega) (by omega)⟩
theorem inR_cut {Q : List Int} (h : inR Q) (j : Nat) : inR (Q.take j ++ Q.drop (j + 1)) := by
  intro i
  by_cases hi : i < (Q.take j ++ Q.drop (j + 1)).length
  · have hm : (Q.take j ++ Q.drop (j + 1))[i]?.getD 0 ∈ Q := by
      rw [List.getElem?_eq_getElem hi]
      rcases List.mem_append.1 (List.getElem_mem hi) with e | e
      · exact List.mem_of_mem_take e
      · exact List.mem_of_mem_drop e
    obtain ⟨t, ht, e⟩ := List.getElem_of_mem hm
    have := h t
    rw [List.getElem?_eq_getElem ht, e] at this
    exact this
  · rw [List.getElem?_eq_none (by omega)]; simp
section
variable {w0 w : World} {F0 : List Nat}
/-- A list that was made since w. -/
theorem Has.listed2 {w1 : World} {A : Asn} {t : TypeId} {v : Value} {n : Nat} {L' : List Int} (h : Has w0 F0 A w) (K : Keep [] w w1) (ho : w1.ownsRow w.heap.size t 1 v n (ints L')) (hb : inR L') :
    ∃ la c, v = .slice la L'.length c ∧ (la = none → c = 0) ∧ L'.length ≤ c ∧ Has w0 F0 (A.star (listA la L')) w1 := by
  obtain ⟨la, c, rfl, hc, h1⟩ := h.listed K ho hb
  exact ⟨la, c, rfl, hc, ((own_mid ho).ints hb).2.2.2, h1⟩
end

end Go.Proofs.YtjlbfojbgnhhbaaGreat

/-
  append of integers at a step of a region that draws, onto a row of one's own; pieces of a list. It speaks of no program.
-/
namespace Go.Proofs.YtjlbfojbgnhhbaaGreat
open Go.RowKit

theorem own_cap {w : World} {base : Nat} {e : TypeId} {b off q c : Nat} {xs : List Value} {v : Value} (h : w.ownsRow base e 1 v q xs) (hv : v = .slice (some ⟨b, off, none⟩) q c) : q ≤ c := by
  rcases h.2 with ⟨h1, _⟩ | ⟨g, cap, cur, h1, _, _, h2, _⟩
  · rw [hv] at h1; cases h1
  · rw [hv] at h1; cases h1; exact h2
/-- The builtin append of integers at a step of a region that draws, whatever is appended: nil, empty, or not. -/
theorem step_append_ints {P : Program} {w : World} {ops : Array Oper} {o : Oper} {a : Act} {K : Act → World → Prop} {Q : Exit → Act → World → Prop} {E : Prop} (hgd : o.guard = none) (s x : Operand) (t : TypeId)
    (ho : o.op = .call { callee := .builtin .append, args := #[s, x], argTypes := #[t, t] })
    (base : Nat) (e : TypeId) (i : TypeInfo) (ht : P.underlying t = some (.slice e)) (hi : P.info? e = some i ∧ i.zero = some (.int .i64 0) ∧ i.size = 1 ∧ i.bytes = 8)
    (v : Value) (n : Nat) (L M : List Int) (hs : a.eval s = v) (hown : w.ownsRow base e 1 v n (ints L)) (xa : Option Addr) (m c : Nat) (hm : M.length = m)
    (hx : a.eval x = .slice xa m c) (hM : IntsAt w xa M) (hc : xa = none → c = 0) (hl : n + m ≤ 1000000) (hbase : base ≤ w.heap.size)
    (h : ∀ v' w', w'.ownsRow base e 1 v' (n + m) (ints (L ++ M)) → w.grownBy w' v.ownBlock → K (a.put o.dst v') w') :
    if Region.wanted o (yielded ops a.tmps) = true then Oper.wp P o a w K Q else E := by
  have hw : Region.wanted o (yielded ops a.tmps) = true := by simp [Region.wanted, hgd]
  rw [if_pos hw]
  obtain ⟨h1, h2, h3, h4⟩ := hi
  cases xa with
  | none =>
    have h0 : M = [] := by
      rcases Nat.eq_zero_or_pos M.length with h0 | h0
      · exact List.length_eq_zero_iff.1 h0
      · obtain ⟨_, _, e, _⟩ := hM.cells h0; cases e
    subst h0
    subst hm
    obtain rfl := hc rfl
    have hrun := run_append_owned_none (P := P) (w := w) base t o.type e i 1 ht h1 v n _ hown
    unfold Oper.wp
    simp [execOp, ho, resolve, invoke, builtin, hs, hx, hrun, Result.andThen]
    exact h v w (by simpa using hown) (grown_refl _ _)
  | some ad =>
    obtain ⟨v', w', hrun, hown', hg, _⟩ := run_append_own (P := P) w base t o.type e i (.int .i64 0) 1 8 ht h1 h2 h3 h4 rfl (by decide) v n _ hown ad m c (ints M) (by rw [ints_length]; omega) (by
      intro j u hu
      have hj : j < M.length := by
        rcases Nat.lt_or_ge j M.length with hj | hj
        · exact hj
        · rw [List.getElem?_eq_none (by rw [ints_length]; exact hj)] at hu; cases hu
      obtain ⟨b, off, e1, _, hcell⟩ := hM.cells (by omega)
      cases e1
      rw [ints_get M j hj] at hu
      rw [Go.WideShapes.add_plain, hcell j hj]; exact hu) (ints_one _) (by unfold maxLen; omega) (by omega) hbase
    unfold Oper.wp
    simp [execOp, ho, resolve, invoke, builtin, hs, hx, hrun, Result.andThen]
    rw [ints_app] at hown'
    exact h v' w' hown' hg

theorem own_emptyB {w : World} {B base : Nat} {e : TypeId} (h : w.heap[B]? = some (.cells #[] e (0, 0))) (hb : base ≤ B) : w.ownsRow base e 1 (.slice (some ⟨B, 0, none⟩) 0 0) 0 (ints []) :=
  ⟨rfl, .inr ⟨B, 0, #[], rfl, hb, h, Nat.le_refl _, Nat.zero_le _, rfl, rfl⟩⟩
theorem IntsAt.oneB {w : World} {B : Nat} {t : TypeId} {x : Int} (h : w.heap[B]? = some (.cells #[.int .i64 x] t (0, 0))) (h1 : -9223372036854775808 ≤ x) (h2 : x ≤ 9223372036854775807) : IntsAt w (some ⟨B, 0, none⟩) [x] := by
  refine ⟨fun _ => ⟨B, 0, rfl, lt_of_block h, fun i hi => ?_⟩, fun i => ?_, fun i => ?_⟩
  · obtain rfl : i = 0 := by simpa using hi
    exact cell_of_one h
  · rcases i with _ | i <;> simp; omega
  · rcases i with _ | i <;> simp; omega

theorem nA (w : World) (o : Obj) : (w.alloc o).drew.heap[w.heap.size]? = some o := heap_alloc_new w o
theorem nB (w : World) (o p : Obj) : ((w.alloc o).alloc p).drew.heap[w.heap.size]? = some o := by
  show ((w.alloc o).alloc p).heap[w.heap.size]? = some o
  rw [Below.heap_alloc _ _ _ (by simp)]; exact heap_alloc_new w o
theorem nC (w : World) (o p : Obj) : ((w.alloc p).alloc o).drew.heap[w.heap.size + 1]? = some o := by
  have := heap_alloc_new (w.alloc p) o
  rw [World.size_alloc] at this
  exact this
theorem IntsAt.grew {w w' : World} {v : Value} {B : Nat} {t : TypeId} {x : Int} (h : w.heap[B]? = some (.cells #[.int .i64 x] t (0, 0))) (hg : w.grownBy w' v.ownBlock) (hne : v.ownBlock ≠ some B) (h1 : -9223372036854775808 ≤ x) (h2 : x ≤ 9223372036854775807) : IntsAt w' (some ⟨B, 0, none⟩) [x] :=
  IntsAt.oneB (by rw [hg.block B (lt_of_block h) (fun e => hne e.symm)]; exact h) h1 h2
theorem IntsAt.take {w : World} {b off : Nat} {L : List Int} (h : IntsAt w (some ⟨b, off, none⟩) L) (k : Nat) : IntsAt w (some ⟨b, off, none⟩) (L.take k) := by
  refine ⟨fun h0 => ?_, fun i => ?_, fun i => ?_⟩
  · rw [List.length_take] at h0
    obtain ⟨b', off', e, hb, hc⟩ := h.cells (by omega)
    cases e
    refine ⟨b, off, rfl, hb, fun i hi => ?_⟩
    rw [List.length_take] at hi
    rw [hc i (by omega), List.getElem?_take, if_pos (by omega)]
  · rw [List.getElem?_take]; split
    · exact h.low i
    · simp
  · rw [List.getElem?_take]; split
    · exact h.high i
    · simp
theorem IntsAt.drop {w : World} {b off : Nat} {L : List Int} (h : IntsAt w (some ⟨b, off, none⟩) L) (k : Nat) : IntsAt w (some ⟨b, off + k, none⟩) (L.drop k) := by
  refine ⟨fun h0 => ?_, fun i => ?_, fun i => ?_⟩
  · rw [List.length_drop] at h0
    obtain ⟨b', off', e, hb, hc⟩ := h.cells (by omega)
    cases e
    refine ⟨b, off + k, rfl, hb, fun i hi => ?_⟩
    rw [List.length_drop] at hi
    rw [List.getElem?_drop, ← hc (k + i) (by omega), Nat.add_assoc]
  · rw [List.getElem?_drop]; exact h.low _
  · rw [List.getElem?_drop]; exact h.high _

end Go.Proofs.YtjlbfojbgnhhbaaGreat

/-
  The document's own finals in memory: their block, their two lists, the heap that they are of; what Await, without, Pend and Take answer and leave.
-/
namespace Go.Proofs.YtjlbfojbgnhhbaaGreat
open Go.RowKit

def rfObj (mb : Nat) (la : Option Addr) (n c : Nat) (qa : Option Addr) (m d : Nat) : Obj := .cells #[.pointer (some ⟨mb, 0, none⟩), .slice la n c, .slice qa m d] 32 (0, 0)
def rfinR (fb mb : Nat) (la : Option Addr) (c : Nat) (qa : Option Addr) (d : Nat) (ws : List Int) (kd : List PK) (ds : List (Int × List Int)) (L Q : List Int) : Asn :=
  (((blockA fb (rfObj mb la L.length c qa Q.length d)).star (rheapA mb ws kd ds)).star (listA la L)).star (listA qa Q)
/-- The document's finals: L wait, Q are pending. -/
def rfinA (fb mb : Nat) (ws : List Int) (kd : List PK) (ds : List (Int × List Int)) (L Q : List Int) : Asn where
  at' w F := ∃ la c qa d, (rfinR fb mb la c qa d ws kd ds L Q).at' w F ∧ (la = none → c = 0) ∧ (qa = none → d = 0) ∧ L.length ≤ c ∧ Q.length ≤ d
  keep := fun h K hS => by
    obtain ⟨la, c, qa, d, h, e⟩ := h
    exact ⟨la, c, qa, d, (rfinR fb mb la c qa d ws kd ds L Q).keep h K hS, e⟩
  lt := fun h => by
    obtain ⟨la, c, qa, d, h, e⟩ := h
    exact (rfinR fb mb la c qa d ws kd ds L Q).lt h

section
variable {w0 w : World} {F0 : List Nat} {fb mb : Nat} {la qa : Option Addr} {c d : Nat} {ws : List Int} {kd : List PK} {ds : List (Int × List Int)} {L Q : List Int}
theorem Has.rfraw (h : Has w0 F0 (rfinA fb mb ws kd ds L Q) w) : ∃ la c qa d, Has w0 F0 (rfinR fb mb la c qa d ws kd ds L Q) w ∧ (la = none → c = 0) ∧ (qa = none → d = 0) ∧ L.length ≤ c ∧ Q.length ≤ d := by
  obtain ⟨F, ⟨la, c, qa, d, h1, e⟩, u⟩ := h
  exact ⟨la, c, qa, d, ⟨F, h1, u⟩, e⟩
theorem Has.rfin (h : Has w0 F0 (rfinR fb mb la c qa d ws kd ds L Q) w) (e1 : la = none → c = 0) (e2 : qa = none → d = 0) (e3 : L.length ≤ c) (e4 : Q.length ≤ d) : Has w0 F0 (rfinA fb mb ws kd ds L Q) w :=
  h.map (fun _ h => ⟨la, c, qa, d, h, e1, e2, e3, e4⟩)
theorem Has.rfheap (h : Has w0 F0 (rfinA fb mb ws kd ds L Q) w) : Has w0 F0 (rheapA mb ws kd ds) w := by
  obtain ⟨la, c, qa, d, h, _⟩ := h.rfraw
  exact h.fst.fst.snd
theorem Has.rfcells (h : Has w0 F0 (rfinR fb mb la c qa d ws kd ds L Q) w) : w.heap[fb]? = some (rfObj mb la L.length c qa Q.length d) := h.fst.fst.fst.fact (fun _ h => h.2)
theorem rfobj_cells {m n : Nat} (h : w.heap[fb]? = some (rfObj mb la n c qa m d)) : w.cell? ⟨fb, 0, none⟩ = some (.pointer (some ⟨mb, 0, none⟩)) ∧ w.cell? ⟨fb, 1, none⟩ = some (.slice la n c) ∧ w.cell? ⟨fb, 2, none⟩ = some (.slice qa m d) ∧ w.frozen? ⟨fb, 1, none⟩ = false ∧ w.frozen? ⟨fb, 2, none⟩ = false := by
  unfold rfObj at h
  exact ⟨by simp [World.cell?, h], by simp [World.cell?, h], by simp [World.cell?, h], by simp [World.frozen?, h], by simp [World.frozen?, h]⟩
/-- The waiting ones are another list, that is new. -/
theorem Has.rfset1 {w1 : World} {t : TypeId} {v : Value} {n : Nat} {L' : List Int} (h : Has w0 F0 (rfinR fb mb la c qa d ws kd ds L Q) w) (K : Keep [] w w1) (ho : w1.ownsRow w.heap.size t 1 v n (ints L')) (hb : inR L') (h2 : qa = none → d = 0) (h3 : Q.length ≤ d) :
    Has w0 F0 (rfinA fb mb ws kd ds L' Q) (w1.setCell ⟨fb, 1, none⟩ v) := by
  obtain ⟨la', c', rfl, hc', hcap, h1⟩ := h.listed2 K ho hb
  have h4 := (Has.left h1.swap (fun F hF => (Has.start hF).swap.fst)).assoc.assoc
  have hx : w1.heap[fb]? = some (rfObj mb la L.length c qa Q.length d) := h4.fst.fact (fun _ h => h.2)
  have hy : (w1.setCell ⟨fb, 1, none⟩ (.slice la' L'.length c')).heap[fb]? = some (rfObj mb la' L'.length c' qa Q.length d) := by
    have := heap_setCell_same w1 fb 1 _ _ (.slice la' L'.length c') hx
    simpa [rfObj] using this
  exact ((h4.setB (Keep.setCell (S := [fb]) w1 (a := ⟨fb, 1, none⟩) _ (by simp)) hy).assoc'.assoc').rfin hc' h2 hcap h3
/-- The pending ones are another list, that is new. -/
theorem Has.rfset2 {w1 : World} {t : TypeId} {v : Value} {n : Nat} {Q' : List Int} (h : Has w0 F0 (rfinR fb mb la c qa d ws kd ds L Q) w) (K : Keep [] w w1) (ho : w1.ownsRow w.heap.size t 1 v n (ints Q')) (hb : inR Q') (h2 : la = none → c = 0) (h3 : L.length ≤ c) :
    Has w0 F0 (rfinA fb mb ws kd ds L Q') (w1.setCell ⟨fb, 2, none⟩ v) := by
  obtain ⟨qa', d', rfl, hd', hcap, h1⟩ := h.listed2 K ho hb
  have h4 := h1.swap.fst.assoc.assoc
  have hx : w1.heap[fb]? = some (rfObj mb la L.length c qa Q.length d) := h4.fst.fact (fun _ h => h.2)
  have hy : (w1.setCell ⟨fb, 2, none⟩ (.slice qa' Q'.length d')).heap[fb]? = some (rfObj mb la L.length c qa' Q'.length d') := by
    have := heap_setCell_same w1 fb 2 _ _ (.slice qa' Q'.length d') hx
    simpa [rfObj] using this
  exact ((h4.setB (Keep.setCell (S := [fb]) w1 (a := ⟨fb, 2, none⟩) _ (by simp)) hy).assoc'.assoc').rfin h2 hd' h3 hcap

set_option maxRecDepth 100000 in
set_option maxHeartbeats 1600000 in
theorem rawait (a E : Int) (ws' : List Int) (w : World) (h : Has w0 F0 (rfinA fb mb ws kd ds L Q) w) (hT : FinalT kd ws a E ws') (ha : inI a) (hl : L.length ≤ 1000) :
    Calls Tryz.prog 9 #[.pointer (some ⟨fb, 0, none⟩), .int .i64 a] w fun e w' => e = .returned (.int .i64 E) ∧ Has w0 F0 (rfinA fb mb ws' kd ds (awaitL E L a) Q) w' := by
  obtain ⟨la, c, qa, d, hX, e1, e2, e3, e4⟩ := h.rfraw
  obtain ⟨c0, _⟩ := rfobj_cells hX.rfcells
  have HX := hid hX
  have HT := hid hT
  have HE := (show Hid ((la = none → c = 0) ∧ (qa = none → d = 0) ∧ L.length ≤ c ∧ Q.length ≤ d) from ⟨e1, e2, e3, e4⟩)
  clear h hX hT e1 e2 e3 e4
  go_enter Tryz.func9, Tryz.ntmps9
  go_wp2_with fail
  refine (has_left HX.out.assoc (fun F hF => has_right hF (fun F hF => rfinal a E ws' _ hF HT.out))).mono ?_
  rintro e w1 ⟨rfl, hX1⟩
  have HX1 := (show Hid (Has w0 F0 (rfinR fb mb la c qa d ws' kd ds L Q) w1) from hX1.assoc')
  clear hX1 c0
  by_cases hE : E = 0
  · subst hE
    obtain ⟨i0, hi, hz0, hz1, hz2⟩ := info_parts Tryz.infoInt
    have hI : Hid (Tryz.prog.info? 3 = some i0 ∧ i0.zero = some (.int .i64 0) ∧ i0.size = 1 ∧ i0.bytes = 8) := ⟨hi, hz0, hz1, hz2⟩
    clear hi hz0 hz1 hz2
    have hX2 := HX1.out.keep0 (Keep.alloc [] w1 (.cells #[] 3))
    obtain ⟨_, c1, _, _, _⟩ := rfobj_cells hX2.rfcells
    have hnew : (w1.alloc (.cells #[] 3)).heap[w1.heap.size]? = some (.cells #[] 3) := heap_alloc_new _ _
    have HO := (show Hid ((w1.alloc (.cells #[] 3)).ownsRow w1.heap.size 3 1 (.slice (some ⟨w1.heap.size, 0, none⟩) 0 0) 0 (ints [])) from own_emptyB hnew (Nat.le_refl _))
    have HL := (show Hid (IntsAt (w1.alloc (.cells #[] 3)) la L) from hX2.fst.snd.list)
    have HB := (show Hid (inR L) from fun i => ⟨HL.out.low i, HL.out.high i⟩)
    have HA := hid ha
    obtain ⟨n, hn⟩ : ∃ n, L.length = n := ⟨_, rfl⟩
    rw [hn] at c1 hl
    have HN := hid hn
    clear hn hX2 hnew ha
    go_wp2_with (first
      | (at_builtin; refine append_ints rfl (.tmp 15) (.tmp 19) 23 rfl w1.heap.size 3 i0 Tryz.underlying23 hI.out _ 0 [] L rfl HO.out la n c HN.out rfl HL.out HE.out.1 (by omega) (by simp) ?_; intro v5 w5 hown5 hgrow5; rw [Nat.zero_add, List.nil_append] at hown5; have hK5 := (Keep.alloc [] w1 (.cells #[] 3)).grown hgrow5 (own_block HO.out); clear hgrow5)
      | (at_builtin; refine append_ints rfl (.tmp 20) (.tmp 22) 23 rfl w1.heap.size 3 i0 Tryz.underlying23 hI.out v5 n L [a] rfl (hown5.alloc _) (some ⟨w5.heap.size, 0, none⟩) 1 1 rfl rfl (IntsAt.single w5 3 a HA.out.1 HA.out.2) (fun e => by cases e) (by omega) (by have := hK5.size; simp; omega) ?_; intro v6 w6 hown6 hgrow6; have hK6 := (hK5.trans (Keep.alloc [] _ _)).grown hgrow6 (own_block hown5); obtain ⟨_, _, _, g1, _⟩ := rfobj_cells (HX1.out.keep0 hK6).rfcells; clear hgrow6 hK5 hown5; obtain ⟨l6, c6, rfl⟩ := (own_mid hown6).form))
    have hF := HX1.out.rfset1 hK6 hown6 (inR_snoc HB.out HA.out) HE.out.2.1 HE.out.2.2.2
    rw [show L ++ [a] = awaitL 0 L a from (if_pos rfl).symm] at hF
    go_ret
    exact ⟨rfl, by rw [show L.length + 1 = (awaitL 0 L a).length by simp [awaitL]]; exact hF⟩
  · have hd : (E == 0) = false := by simpa using hE
    have HL := (show Hid (awaitL E L a = L) from if_neg hE)
    go_wp2_with fail
    go_ret
    rw [HL.out]
    exact ⟨rfl, HX1.out.rfin HE.out.1 HE.out.2.1 HE.out.2.2.1 HE.out.2.2.2⟩

set_option maxRecDepth 100000 in
set_option maxHeartbeats 1600000 in
theorem rwithout (ao : Option Addr) (n ca : Nat) (L : List Int) (x : Int) (w : World) (hA : IntsAt w ao L) (hn : L.length = n) (hl : n ≤ 1000) :
    Calls Tryz.prog 36 #[.slice ao n ca, .int .i64 x] w fun e w' => ∃ (v : Value) (m : Nat), e = .returned v ∧ w'.ownsRow w.heap.size 3 1 v m (ints (withoutL L x)) ∧ Keep [] w w' := by
  obtain ⟨i0, hi, hz0, hz1, hz2⟩ := info_parts Tryz.infoInt
  have hI : Hid (Tryz.prog.info? 3 = some i0 ∧ i0.zero = some (.int .i64 0) ∧ i0.size = 1 ∧ i0.bytes = 8) := ⟨hi, hz0, hz1, hz2⟩
  have HA := hid hA
  have HN := hid hn
  clear hA hn hi hz0 hz1 hz2
  go_enter Tryz.func36, Tryz.ntmps36
  go_wp2_with fail
  go_loopw [5, 6] (fun v i wr => ∃ (j m : Nat) (vv : Value), vv = v ∧ j ≤ n ∧ m ≤ j ∧ i = .int .i64 j ∧ Hid (wr.ownsRow w.heap.size 3 1 v m (ints (withoutL (L.take j) x))) ∧ Keep [] w wr) (fun _ i _ => n - (intOf i).toNat)
  case atStart => exact ⟨0, 0, _, rfl, by omega, by omega, rfl, World.ownsRow_nil _ _ _ _, Keep.refl _ _⟩
  case round =>
    obtain ⟨j, m, v, hvv, hj, hm, rfl, HO, hK⟩ := hrel
    subst hvv
    by_cases hlt : j < n
    · obtain ⟨b, off, rfl, hbs, hcell⟩ := HA.out.cells (by have := HN.out; omega)
      have hc := (hK.cell hbs (by simp) (off + j)).trans (hcell j (by have := HN.out; omega))
      have hbx : inI (L[j]?.getD 0) := ⟨HA.out.low j, HA.out.high j⟩
      have HT := hid (withoutL_snoc L x j (by have := HN.out; omega))
      clear hcell
      generalize L[j]?.getD 0 = y at *
      have HB := hid hbx
      clear hbx
      by_cases hy : y = x
      · have hd : (y == x) = true := by rw [beq_iff_eq]; exact hy
        have hd2 : (y != x) = false := by simp [hy]
        have HT2 := (show Hid (withoutL (L.take (j + 1)) x = withoutL (L.take j) x) from by show _ = _; rw [HT.out, if_pos hy])
        have HO2 := (show Hid (wr.ownsRow w.heap.size 3 1 v m (ints (withoutL (L.take (j + 1)) x))) from by show World.ownsRow _ _ _ _ _ _ _; rw [HT2.out]; exact HO.out)
        clear hy HO HT HT2
        go_wp2_with fail
        go_roundw
        case rel => exact ⟨j + 1, m, _, rfl, by omega, by omega, by go_num, HO2, hK⟩
        case measure => simp [intOf]; omega
      · have hd : (y == x) = false := by rw [beq_eq_false_iff_ne]; exact hy
        have hd2 : (y != x) = true := by simp [hy]
        have HT2 := (show Hid (withoutL (L.take (j + 1)) x = withoutL (L.take j) x ++ [y]) from by show _ = _; rw [HT.out, if_neg hy])
        clear hy HT
        go_wp2_with (at_builtin; refine append_ints rfl (.tmp 19) (.tmp 24) 23 rfl w.heap.size 3 i0 Tryz.underlying23 hI.out _ m (withoutL (L.take j) x) [y] rfl (HO.out.alloc _) (some ⟨wr.heap.size, 0, none⟩) 1 1 rfl rfl (IntsAt.single wr 3 y HB.out.1 HB.out.2) (fun e => by cases e) (by omega) (by have := hK.size; simp; omega) ?_; intro v' w5 hown5 hgrow)
        have HO5 := (show Hid (w5.ownsRow w.heap.size 3 1 v' (m + 1) (ints (withoutL (L.take (j + 1)) x))) from by
          show World.ownsRow _ _ _ _ _ _ _
          rw [HT2.out]; exact hown5)
        have hK5 : Keep [] w w5 := (hK.trans (Keep.alloc [] _ _)).grown hgrow (own_block HO.out)
        clear hown5 hgrow hK HT2
        go_wp2_with fail
        go_roundw
        case rel => exact ⟨j + 1, m + 1, _, rfl, by omega, by omega, by go_num, HO5, hK5⟩
        case measure => simp [intOf]; omega
    · obtain rfl : j = n := by omega
      have e1 : L.take j = L := List.take_of_length_le (by have := HN.out; omega)
      have hown := HO.out
      rw [e1] at hown
      have HO2 := hid hown
      clear hown HO e1
      go_wp2_with fail
      go_ret
      exact ⟨v, m, rfl, HO2.out, hK⟩

theorem Has.rflists {B : Asn} (h : Has w0 F0 ((rfinA fb mb ws kd ds L Q).star B) w) : ∃ la c qa d, Has w0 F0 ((rfinR fb mb la c qa d ws kd ds L Q).star B) w ∧ (la = none → c = 0) ∧ (qa = none → d = 0) ∧ L.length ≤ c ∧ Q.length ≤ d := by
  obtain ⟨F, ⟨F1, F2, hF, ⟨la, c, qa, d, h1, e⟩, h2, hd⟩, u⟩ := h
  exact ⟨la, c, qa, d, ⟨F, ⟨F1, F2, hF, h1, h2, hd⟩, u⟩, e⟩
theorem Has.rset1B {B : Asn} {w1 : World} {t : TypeId} {v : Value} {n : Nat} {L' : List Int} (h : Has w0 F0 ((rfinR fb mb la c qa d ws kd ds L Q).star B) w) (K : Keep [] w w1) (ho : w1.ownsRow w.heap.size t 1 v n (ints L')) (hb : inR L') (h2 : qa = none → d = 0) (h3 : Q.length ≤ d) :
    Has w0 F0 ((rfinA fb mb ws kd ds L' Q).star B) (w1.setCell ⟨fb, 1, none⟩ v) := Has.left h (fun _ hF => (Has.start hF).rfset1 K ho hb h2 h3)
theorem Has.rset2B {B : Asn} {w1 : World} {t : TypeId} {v : Value} {n : Nat} {Q' : List Int} (h : Has w0 F0 ((rfinR fb mb la c qa d ws kd ds L Q).star B) w) (K : Keep [] w w1) (ho : w1.ownsRow w.heap.size t 1 v n (ints Q')) (hb : inR Q') (h2 : la = none → c = 0) (h3 : L.length ≤ c) :
    Has w0 F0 ((rfinA fb mb ws kd ds L Q').star B) (w1.setCell ⟨fb, 2, none⟩ v) := Has.left h (fun _ hF => (Has.start hF).rfset2 K ho hb h2 h3)

set_option maxRecDepth 100000 in
set_option maxHeartbeats 6400000 in
theorem rpend {B : Asn} (ao : Option Addr) (n ca : Nat) (M : List Int) (w : World) (h : Has w0 F0 ((rfinA fb mb ws kd ds L Q).star B) w) (hB : ∀ w F, B.at' w F → IntsAt w ao M) (hn : M.length = n) (hl : L.length ≤ 500) (hq : Q.length + n ≤ 500) :
    Calls Tryz.prog 11 #[.pointer (some ⟨fb, 0, none⟩), .slice ao n ca] w fun e w' => e = .returned (.tuple #[]) ∧ Has w0 F0 ((rfinA fb mb ws kd ds (pendL L Q M).1 (pendL L Q M).2).star B) w' := by
  obtain ⟨i0, hi, hz0, hz1, hz2⟩ := info_parts Tryz.infoInt
  have hI : Hid (Tryz.prog.info? 3 = some i0 ∧ i0.zero = some (.int .i64 0) ∧ i0.size = 1 ∧ i0.bytes = 8) := ⟨hi, hz0, hz1, hz2⟩
  have HX := hid h
  have HM := (show Hid (∀ (w : World) (F0 : List Nat) (A : Asn), Has w0 F0 (A.star B) w → IntsAt w ao M) from fun w F0 A h => h.snd.fact (fun F hF => hB w F hF))
  have HN := hid hn
  have HLE := (show Hid (∀ j, j ≤ n → (pendL L Q (M.take j)).1.length ≤ 500 ∧ (pendL L Q (M.take j)).2.length ≤ 500) from fun j hj => by
    have := pendL_le L Q (M.take j)
    rw [List.length_take] at this
    omega)
  clear hi hz0 hz1 hz2 h hB hn hl
  go_enter Tryz.func11, Tryz.ntmps11
  go_wp2_with fail
  go_loopw [4] (fun i wr => ∃ (j : Nat), j ≤ n ∧ i = .int .i64 j ∧ Hid (Has w0 F0 ((rfinA fb mb ws kd ds (pendL L Q (M.take j)).1 (pendL L Q (M.take j)).2).star B) wr)) (fun i _ => n - (intOf i).toNat)
  case atStart => exact ⟨0, by omega, rfl, HX⟩
  case round =>
    obtain ⟨j, hj, rfl, HR⟩ := hrel
    clear HX
    by_cases hlt : j < n
    · have hI1 := HM.out _ _ _ HR.out
      obtain ⟨b, off, rfl, hbs, hcell⟩ := hI1.cells (by have := HN.out; omega)
      have hc := hcell j (by have := HN.out; omega)
      have hbx : inI (M[j]?.getD 0) := ⟨hI1.low j, hI1.high j⟩
      have HS := hid (pendL_snoc L Q M j (by have := HN.out; omega))
      obtain ⟨hl1, hl2⟩ := HLE.out j (by omega)
      obtain ⟨x, hx⟩ : ∃ x, M[j]?.getD 0 = x := ⟨_, rfl⟩
      rw [hx] at hc hbx HS
      have HXJ := hid hx
      clear hcell hI1 hx
      generalize pendL L Q (M.take j) = s at *
      obtain ⟨L1, Q1⟩ := s
      obtain ⟨la, c, qa, d, hX, e1, e2, e3, e4⟩ := HR.out.rflists
      have hL := hX.fst.fst.snd.list
      have hQ := hX.fst.snd.list
      obtain ⟨c0, c1, c2, _, _⟩ := rfobj_cells hX.fst.rfcells
      obtain ⟨nl, hnl⟩ : ∃ nl, L1.length = nl := ⟨_, rfl⟩
      obtain ⟨mq, hnq⟩ : ∃ mq, Q1.length = mq := ⟨_, rfl⟩
      simp only at hl1 hl2 hX hL hQ c0 c1 c2 e3 e4
      rw [hnl] at c1 hl1
      rw [hnq] at c2 hl2
      have HX := hid hX
      have HL := hid hL
      have HQ := hid hQ
      have HNL := hid hnl
      have HNQ := hid hnq
      have HE := (show Hid ((la = none → c = 0) ∧ (qa = none → d = 0) ∧ L1.length ≤ c ∧ Q1.length ≤ d) from ⟨e1, e2, e3, e4⟩)
      have HXB := hid hbx
      clear hX hL hQ hnl hnq e1 e2 e3 e4 HR hbx
      go_upto_region 3 with fail
      go_quiet (first | (go_at_call 35; exact Calls.quiet_of_same ((rin la nl c L1 x _ (HL.out.keep (Keep.drewN [] wr _) (fun _ _ _ => by simp)) HNL.out (by omega)).mono (fun e w' h => ⟨h.1, h.2.symm⟩))))
      have hX2 := HX.out.keep0 (Keep.drewN [] wr nq)
      have hc2 := ((Keep.drewN [] wr nq).cell hbs (by simp) (off + j)).trans hc
      have hbs2 : b < (wr.drewN nq).heap.size := by simpa using hbs
      clear hc c0 c1 c2 HX HL HQ hbs
      generalize wr.drewN nq = w2 at *
      have HX2 := hid hX2
      have HL2 := hid hX2.fst.fst.snd.list
      clear hX2
      by_cases hin : inL L1 x = true
      · have HP := (show Hid (pendL L Q (M.take (j + 1)) = (withoutL L1 x, Q1 ++ [x])) from by show _ = _; rw [HS.out]; unfold pend1; rw [if_pos hin])
        rw [hin]
        clear HS hin
        obtain ⟨_, d1, _, _, _⟩ := rfobj_cells HX2.out.fst.rfcells
        rw [HNL.out] at d1
        have hfb : fb < w2.heap.size := lt_of_cell2 d1
        have HD := (show Hid (∀ w', Keep [] w2 w' → w'.cell? ⟨fb, 1, none⟩ = some (.slice la nl c) ∧ w'.cell? ⟨b, off + j, none⟩ = some (.int .i64 x)) from fun w' K => ⟨(K.cell hfb (by simp) 1).trans d1, (K.cell hbs2 (by simp) (off + j)).trans hc2⟩)
        go_upto_region 4 with fail
        go_cut [] from 20 to 31 (fun wz => Hid (Has w0 F0 ((rfinA fb mb ws kd ds (withoutL L1 x) Q1).star B) wz))
        case first =>
          go_region_law (first | (go_simp; refine (rwithout la nl c L1 x _ (HL2.out.keep (Keep.drew [] _) (fun _ _ _ => by simp)) HNL.out (by omega)).mono ?_; rintro e w3 ⟨v, m, rfl, hown, hK3⟩; obtain ⟨l6, c6, rfl⟩ := (own_mid hown).form; have hX3 := HX2.out.keep0 (Keep.drew [] w2); have HF := (show Hid (Has w0 F0 ((rfinA fb mb ws kd ds (withoutL L1 x) Q1).star B) (w3.setCell ⟨fb, 1, none⟩ (.slice l6 (withoutL L1 x).length c6))) from hX3.rset1B hK3 hown (inR_without (fun i => ⟨HL2.out.low i, HL2.out.high i⟩) x) HE.out.2.1 HE.out.2.2.2); obtain ⟨_, _, _, f1, _⟩ := rfobj_cells (hX3.keep0 hK3).fst.rfcells; clear hown hX3))
          all_goals (
            go_wp2_with fail
            go_meet
            exact HF.out)
        case rest =>
          obtain ⟨w4, rfl⟩ : ∃ w4, w4 = wc := ⟨_, rfl⟩
          obtain ⟨la4, c4, qa4, d4, hX4, e1, e2, e3, e4⟩ := hcut.out.rflists
          have HE4 := (show Hid ((la4 = none → c4 = 0) ∧ (qa4 = none → d4 = 0) ∧ (withoutL L1 x).length ≤ c4 ∧ Q1.length ≤ d4) from ⟨e1, e2, e3, e4⟩)
          have hI4 := HM.out _ _ _ hX4
          obtain ⟨b4, off4, ee, hbs4, hcell4⟩ := hI4.cells (by have := HN.out; omega)
          cases ee
          have he4 := hcell4 j (by have := HN.out; omega)
          rw [HXJ.out] at he4
          obtain ⟨_, _, d2, _, g2⟩ := rfobj_cells hX4.fst.rfcells
          rw [HNQ.out] at d2
          have hfb4 : fb < w4.heap.size := lt_of_cell2 d2
          have HQ4 := hid hX4.fst.snd.list
          have HX4 := hid hX4
          have HB4 := (show Hid (inR Q1) from fun i => ⟨HQ4.out.low i, HQ4.out.high i⟩)
          have k2 : ∀ o, (w4.alloc o).drew.cell? ⟨fb, 2, none⟩ = some (.slice qa4 mq d4) := fun o => (((Keep.alloc [] w4 o).trans (Keep.drew [] _)).cell hfb4 (by simp) 2).trans d2
          have k3 : ∀ o, (w4.alloc o).drew.cell? ⟨b, off + j, none⟩ = some (.int .i64 x) := fun o => (((Keep.alloc [] w4 o).trans (Keep.drew [] _)).cell hbs4 (by simp) (off + j)).trans he4
          have k4 : ∀ o p, ((w4.alloc o).alloc p).drew.cell? ⟨fb, 2, none⟩ = some (.slice qa4 mq d4) := fun o p => ((((Keep.alloc [] w4 o).trans (Keep.alloc [] _ p)).trans (Keep.drew [] _)).cell hfb4 (by simp) 2).trans d2
          have HD4 := (show Hid (∀ w', Keep [] w4 w' → w'.cell? ⟨fb, 2, none⟩ = some (.slice qa4 mq d4) ∧ w'.cell? ⟨b, off + j, none⟩ = some (.int .i64 x)) from fun w' K => ⟨(K.cell hfb4 (by simp) 2).trans d2, (K.cell hbs4 (by simp) (off + j)).trans he4⟩)
          clear hcut hX4 HX2 HL2 HD d1 hfb hc2 hbs2 e1 e2 e3 e4 hI4 hcell4 g2
          go_upto_region 5 with fail
          go_region_law (first
            | (refine step_append_ints rfl (.tmp 33) (.tmp 37) 23 rfl w4.heap.size 3 i0 Tryz.underlying23 hI.out (.slice (some ⟨_, 0, none⟩) 0 0) 0 [] Q1 rfl (own_emptyB (by first | exact nA _ _ | exact nB _ _ _ | exact nC _ _ _) (by omega)) _ mq d4 HNQ.out rfl (HQ4.out.keep (S := []) (by first | exact (Keep.alloc [] w4 _).trans (Keep.drew [] _) | exact ((Keep.alloc [] w4 _).trans (Keep.alloc [] _ _)).trans (Keep.drew [] _)) (fun _ _ _ => by simp)) HE4.out.2.1 (by omega) (by first | (simp; done) | (simp; omega)) ?_
               intro v5 w5 hown5 hgrow5
               have hK5 : Keep [] w4 w5 := (show Keep [] w4 _ from by first | exact (Keep.alloc [] w4 _).trans (Keep.drew [] _) | exact ((Keep.alloc [] w4 _).trans (Keep.alloc [] _ _)).trans (Keep.drew [] _)).grown hgrow5 (fun z e => by simp [Value.ownBlock] at e; omega)
               first
                 | (have HY5 := (show Hid (IntsAt w5 (some ⟨w4.heap.size + 1, 0, none⟩) [x]) from IntsAt.grew (nC _ _ _) hgrow5 (by simp [Value.ownBlock]) HXB.out.1 HXB.out.2))
                 | (have HY5 := (show Hid (IntsAt w5 (some ⟨w4.heap.size, 0, none⟩) [x]) from IntsAt.grew (nB _ _ _) hgrow5 (by simp [Value.ownBlock]) HXB.out.1 HXB.out.2))
                 | skip
               rw [Nat.zero_add, List.nil_append] at hown5
               have k5 := (HD4.out w5 hK5).2
               have HO5 := (show Hid (w5.ownsRow w4.heap.size 3 1 v5 mq (ints Q1)) from hown5)
               have HK5 := (show Hid (Keep [] w4 w5) from hK5)
               clear hown5 hgrow5 hK5)
            | (refine step_append_ints rfl (.tmp 38) (.tmp 43) 23 rfl w4.heap.size 3 i0 Tryz.underlying23 hI.out v5 mq Q1 [x] rfl (by first | exact HO5.out | exact HO5.out.alloc _) _ 1 1 rfl rfl (by first | exact HY5.out | exact IntsAt.oneB (heap_alloc_new _ _) HXB.out.1 HXB.out.2) (by simp) (by omega) (by have := HK5.out.size; simp; omega) ?_
               intro v6 w6 hown6 hgrow6
               have hK6 := ((show Keep [] w4 _ from by first | exact HK5.out | exact HK5.out.trans (Keep.alloc [] _ _)).grown hgrow6 (own_block HO5.out))
               obtain ⟨l6, c6, rfl⟩ := (own_mid hown6).form
               have HF := (show Hid (Has w0 F0 ((rfinA fb mb ws kd ds (withoutL L1 x) (Q1 ++ [x])).star B) (w6.setCell ⟨fb, 2, none⟩ (.slice l6 (Q1 ++ [x]).length c6))) from HX4.out.rset2B hK6 hown6 (inR_snoc HB4.out HXB.out) HE4.out.1 HE4.out.2.2.1)
               obtain ⟨_, _, _, _, f2⟩ := rfobj_cells (HX4.out.keep0 hK6).fst.rfcells
               rw [show (Q1 ++ [x]).length = mq + 1 by rw [List.length_append, HNQ.out]; rfl] at *
               clear hown6 hgrow6 hK6))
          all_goals (
            have HR2 := (show Hid (Has w0 F0 ((rfinA fb mb ws kd ds (pendL L Q (M.take (j + 1))).1 (pendL L Q (M.take (j + 1))).2).star B) _) from by
              show Has _ _ _ _
              rw [HP.out]
              exact HF.out)
            clear HF d2 k2 k3 k4 he4 hbs4 hfb4
            go_wp2_with fail
            go_roundw
            case rel => exact ⟨j + 1, by omega, by go_num, HR2⟩
            case measure => simp [intOf]; omega)
      · have hin' : inL L1 x = false := by simpa using hin
        have HP := (show Hid (pendL L Q (M.take (j + 1)) = (L1, Q1)) from by show _ = _; rw [HS.out]; unfold pend1; rw [if_neg hin])
        have HR2 := (show Hid (Has w0 F0 ((rfinA fb mb ws kd ds (pendL L Q (M.take (j + 1))).1 (pendL L Q (M.take (j + 1))).2).star B) w2) from by
          show Has _ _ _ _
          rw [HP.out]
          exact Has.left HX2.out (fun _ hF => (Has.start hF).rfin HE.out.1 HE.out.2.1 HE.out.2.2.1 HE.out.2.2.2))
        rw [hin']
        clear hin hin' HS
        go_wp2_with fail
        go_roundw
        case rel => exact ⟨j + 1, by omega, by go_num, HR2⟩
        case measure => simp [intOf]; omega
    · obtain rfl : j = n := by omega
      have e1 : M.take j = M := List.take_of_length_le (by have := HN.out; omega)
      have hR := HR.out
      rw [e1] at hR
      have HR2 := hid hR
      clear hR HR e1
      go_wp2_with fail
      go_end0
      exact ⟨rfl, HR2.out⟩
end

end Go.Proofs.YtjlbfojbgnhhbaaGreat

/-
  The document's own finals in memory: what Take answers and leaves.
-/
namespace Go.Proofs.YtjlbfojbgnhhbaaGreat
open Go.RowKit

def gotO (N E : Int) : Obj := .cells #[.int .i64 N, .int .i64 E] 34 (0, 0)

section
variable {w0 w : World} {F0 : List Nat} {fb mb : Nat} {la qa : Option Addr} {c d : Nat} {ws : List Int} {kd : List PK} {ds : List (Int × List Int)} {L Q : List Int}
theorem Has.gotO {A : Asn} {b : Nat} {N E : Int} (h : Has w0 F0 (A.star (blockA b (gotO N E))) w) : w.heap[b]? = some (.cells #[.int .i64 N, .int .i64 E] 34 (0, 0)) := h.snd.fact (fun _ h => h.2)

set_option maxRecDepth 100000 in
set_option maxHeartbeats 6400000 in
theorem rtake (i N E : Int) (Q' : List Int) (w : World) (h : Has w0 F0 (rfinA fb mb ws kd ds L Q) w) (hT : TakeT Q i N E Q') (hi : inI i) (hq : Q.length ≤ 500) :
    Calls Tryz.prog 13 #[.pointer (some ⟨fb, 0, none⟩), .int .i64 i] w fun e w' => e = .returned (.agg #[.int .i64 N, .int .i64 E]) ∧ Has w0 F0 (rfinA fb mb ws kd ds L Q') w' := by
  have hx0 := h.newB (gotO 0 0)
  cases hT with
  | no hno =>
    clear h
    by_cases h0 : i < 0
    · go_enter Tryz.func13, Tryz.ntmps13
      go_upto_region 1 with fail
      unfold gotO at hx0
      generalize w.alloc (.cells #[.int .i64 0, .int .i64 0] 34) = w1 at *
      generalize w.heap.size = bx at *
      have HX := (show Hid (Has w0 F0 ((rfinA fb mb ws kd ds L Q).star (blockA bx (gotO 0 0))) w1) from hx0)
      have hx2 := HX.out.gotO
      obtain ⟨f0, f1⟩ := two_free hx2
      obtain ⟨d0, d1⟩ := two_cells hx2
      clear hx0 hno
      go_wp2_with fail
      obtain ⟨z, hk4⟩ := two_put hx2 (.int .i64 0) (.int .i64 1)
      refine bodyPost_ret (results_cell_row rfl _ _ bx 34 #[.int .i64 0, .int .i64 1] (0, 0) _ rfl z Tryz.underlying34 rfl (by kernel_rfl)) rfl ?_
      exact ⟨rfl, (HX.out.block hk4 z).fst⟩
    · have hle : (Q.length : Int) ≤ i := by omega
      go_enter Tryz.func13, Tryz.ntmps13
      go_upto_region 1 with fail
      unfold gotO at hx0
      generalize w.alloc (.cells #[.int .i64 0, .int .i64 0] 34) = w1 at *
      generalize w.heap.size = bx at *
      have HX := (show Hid (Has w0 F0 ((rfinA fb mb ws kd ds L Q).star (blockA bx (gotO 0 0))) w1) from hx0)
      have hx2 := HX.out.gotO
      obtain ⟨la, c, qa, d, hR, _⟩ := hx0.rflists
      obtain ⟨_, _, c2, _, _⟩ := rfobj_cells hR.fst.rfcells
      obtain ⟨f0, f1⟩ := two_free hx2
      obtain ⟨d0, d1⟩ := two_cells hx2
      obtain ⟨n, hn⟩ : ∃ n, Q.length = n := ⟨_, rfl⟩
      rw [hn] at c2 hle hq
      clear hx0 hno hR hn
      go_wp2_with fail
      obtain ⟨z, hk4⟩ := two_put hx2 (.int .i64 0) (.int .i64 1)
      refine bodyPost_ret (results_cell_row rfl _ _ bx 34 #[.int .i64 0, .int .i64 1] (0, 0) _ rfl z Tryz.underlying34 rfl (by kernel_rfl)) rfl ?_
      exact ⟨rfl, (HX.out.block hk4 z).fst⟩
  | yes j e hj =>
    subst e
    clear h
    obtain ⟨x, hx⟩ : ∃ x, Q[j]?.getD 0 = x := ⟨_, rfl⟩
    obtain ⟨R, hR'⟩ : ∃ R, Q.take j ++ Q.drop (j + 1) = R := ⟨_, rfl⟩
    rw [hx, hR']
    have HRR := hid hR'
    clear hR'
    obtain ⟨i0, hi0, hz0, hz1, hz2⟩ := info_parts Tryz.infoInt
    have hI : Hid (Tryz.prog.info? 3 = some i0 ∧ i0.zero = some (.int .i64 0) ∧ i0.size = 1 ∧ i0.bytes = 8) := ⟨hi0, hz0, hz1, hz2⟩
    clear hi0 hz0 hz1 hz2
    go_enter Tryz.func13, Tryz.ntmps13
    go_upto_region 1 with fail
    unfold gotO at hx0
    generalize w.alloc (.cells #[.int .i64 0, .int .i64 0] 34) = w1 at *
    generalize w.heap.size = bx at *
    obtain ⟨la, c, qa, d, hR, e1, e2, e3, e4⟩ := (show Has w0 F0 ((rfinA fb mb ws kd ds L Q).star (blockA bx (gotO 0 0))) w1 from hx0).rflists
    have HX := hid hR
    have HE := (show Hid ((la = none → c = 0) ∧ (qa = none → d = 0) ∧ L.length ≤ c ∧ Q.length ≤ d) from ⟨e1, e2, e3, e4⟩)
    have hQ := hR.fst.snd.list
    have HB := (show Hid (inR Q) from fun i => ⟨hQ.low i, hQ.high i⟩)
    obtain ⟨g, o, rfl, hgs, hcell⟩ := hQ.cells (by omega)
    have hc := hcell j hj
    rw [hx] at hc
    obtain ⟨_, _, c2, _, _⟩ := rfobj_cells hR.fst.rfcells
    obtain ⟨n, hn⟩ : ∃ n, Q.length = n := ⟨_, rfl⟩
    rw [hn] at c2 hq hj e4
    have HN := hid hn
    have hfb : fb < w1.heap.size := lt_of_cell2 c2
    have HTK := (show Hid ((Q.take j).length = j) from by show _ = _; rw [List.length_take, hn]; omega)
    have HDK := (show Hid ((Q.drop (j + 1)).length = n - (j + 1)) from by show _ = _; rw [List.length_drop, hn])
    have HTI := (show Hid (IntsAt w1 (some ⟨g, o, none⟩) (Q.take j)) from hQ.take j)
    have HDI := (show Hid (IntsAt w1 (if d = j + 1 then some ⟨g, o, none⟩ else some ⟨g, o + (j + 1), none⟩) (Q.drop (j + 1))) from by
      show IntsAt _ _ _
      by_cases hd : d = j + 1
      · rw [if_pos hd, List.drop_of_length_le (by omega)]; exact IntsAt.nil _ _
      · rw [if_neg hd]; exact hQ.drop (j + 1))
    have k2 : ∀ o', (w1.alloc o').drew.cell? ⟨fb, 2, none⟩ = some (.slice (some ⟨g, o, none⟩) n d) := fun o' => (((Keep.alloc [] w1 o').trans (Keep.drew [] _)).cell hfb (by simp) 2).trans c2
    have HD := (show Hid (∀ w', Keep [] w1 w' → w'.cell? ⟨fb, 2, none⟩ = some (.slice (some ⟨g, o, none⟩) n d)) from fun w' K => (K.cell hfb (by simp) 2).trans c2)
    clear hx0 hR hQ hcell hx hn e1 e2 e3
    have HBR := (show Hid (inR R) from by
      have := HRR.out
      subst this
      exact inR_cut HB.out j)
    obtain ⟨p, hp⟩ : ∃ p, j + 1 = p := ⟨_, rfl⟩
    have hwp : IntKind.i64.wrap ((j : Int) + 1) = (p : Int) := by rw [show (j : Int) + 1 = (p : Int) by omega]; exact IntWalk.i64_in _ (by omega)
    have hpn : p ≤ n := by omega
    have hpi : (p : Int) ≤ (n : Int) := by omega
    have hjp : j ≤ p := by omega
    have hjpi : (j : Int) ≤ (p : Int) := by omega
    have hpd : p ≤ d := by omega
    have hjd : j ≤ d := by omega
    have hjdi : (j : Int) ≤ (d : Int) := by omega
    rw [hp] at HDI HDK HRR
    clear hp
    by_cases hd : d = p
    · have HR0 := (show Hid (Q.take j ++ [] = R) from by
        show _ = _
        have e := HRR.out
        rw [List.drop_of_length_le (by have := HN.out; omega)] at e
        exact e)
      subst hd
      obtain rfl : n = d := by omega
      clear HDI HDK
      go_upto_region 4 with fail
      go_cut [5] from 6 to 43 (fun v wz => v = .int .i64 x ∧ Hid (Has w0 F0 ((rfinA fb mb ws kd ds L R).star (blockA bx (gotO 0 0))) wz))
      case first =>
        go_region_law (first
          | (refine step_append_ints rfl (.tmp 26) (.tmp 32) 23 rfl w1.heap.size 3 i0 Tryz.underlying23 hI.out (.slice (some ⟨_, 0, none⟩) 0 0) 0 [] (Q.take j) rfl (own_emptyB (by first | exact nA _ _ | exact nB _ _ _ | exact nC _ _ _) (by omega)) _ j _ HTK.out rfl (HTI.out.keep (S := []) (by first | exact (Keep.alloc [] w1 _).trans (Keep.drew [] _)) (fun _ _ _ => by simp)) (by simp) (by omega) (by first | (simp; done) | (simp; omega)) ?_
             intro v5 w5 hown5 hgrow5
             have hK5 : Keep [] w1 w5 := (show Keep [] w1 _ from (Keep.alloc [] w1 _).trans (Keep.drew [] _)).grown hgrow5 (fun z e => by simp [Value.ownBlock] at e; omega)
             rw [Nat.zero_add, List.nil_append] at hown5
             have k5 := HD.out w5 hK5
             have HO5 := (show Hid (w5.ownsRow w1.heap.size 3 1 v5 j (ints (Q.take j))) from hown5)
             have HK5 := (show Hid (Keep [] w1 w5) from hK5)
             clear hown5 hgrow5 hK5)
          | (refine step_append_ints rfl (.tmp 33) (.tmp 40) 23 rfl w1.heap.size 3 i0 Tryz.underlying23 hI.out v5 j (Q.take j) [] rfl HO5.out _ 0 _ rfl rfl (IntsAt.nil _ _) (by simp) (by omega) HK5.out.size ?_
             intro v6 w6 hown6 hgrow6
             have hK6 := HK5.out.grown hgrow6 (own_block HO5.out)
             rw [HR0.out] at hown6
             obtain ⟨l6, c6, rfl⟩ := (own_mid hown6).form
             have HF := (show Hid (Has w0 F0 ((rfinA fb mb ws kd ds L R).star (blockA bx (gotO 0 0))) (w6.setCell ⟨fb, 2, none⟩ (.slice l6 R.length c6))) from HX.out.rset2B hK6 hown6 HBR.out HE.out.1 HE.out.2.2.1)
             obtain ⟨_, _, _, _, f2⟩ := rfobj_cells (HX.out.keep0 hK6).fst.rfcells
             clear hown6 hgrow6 hK6))
        all_goals (
          go_wp2_with fail
          go_meet
          exact ⟨rfl, HF.out⟩)
      case rest =>
        obtain ⟨w7, rfl⟩ : ∃ w7, w7 = wc := ⟨_, rfl⟩
        obtain ⟨rfl, hcut⟩ := hcut
        have HF := hid hcut.out
        have hx2 := HF.out.gotO
        obtain ⟨f0, f1⟩ := two_free hx2
        obtain ⟨d0, d1⟩ := two_cells hx2
        clear hcut HX HTI HD k2 c2 hfb hgs hc
        go_wp2_with fail
        obtain ⟨z, hk4⟩ := two_put hx2 (.int .i64 x) (.int .i64 0)
        refine bodyPost_ret (results_cell_row rfl _ _ bx 34 #[.int .i64 x, .int .i64 0] (0, 0) _ rfl z Tryz.underlying34 rfl (by kernel_rfl)) rfl ?_
        exact ⟨rfl, (HF.out.block hk4 z).fst⟩
    · rw [if_neg hd] at HDI
      have hd' : ¬ p = d := fun e => hd e.symm
      go_upto_region 4 with fail
      go_cut [5] from 6 to 43 (fun v wz => v = .int .i64 x ∧ Hid (Has w0 F0 ((rfinA fb mb ws kd ds L R).star (blockA bx (gotO 0 0))) wz))
      case first =>
        go_region_law (first
          | (refine step_append_ints rfl (.tmp 26) (.tmp 32) 23 rfl w1.heap.size 3 i0 Tryz.underlying23 hI.out (.slice (some ⟨_, 0, none⟩) 0 0) 0 [] (Q.take j) rfl (own_emptyB (by first | exact nA _ _ | exact nB _ _ _ | exact nC _ _ _) (by omega)) _ j _ HTK.out rfl (HTI.out.keep (S := []) (by first | exact (Keep.alloc [] w1 _).trans (Keep.drew [] _)) (fun _ _ _ => by simp)) (by simp) (by omega) (by first | (simp; done) | (simp; omega)) ?_
             intro v5 w5 hown5 hgrow5
             have hK5 : Keep [] w1 w5 := (show Keep [] w1 _ from (Keep.alloc [] w1 _).trans (Keep.drew [] _)).grown hgrow5 (fun z e => by simp [Value.ownBlock] at e; omega)
             rw [Nat.zero_add, List.nil_append] at hown5
             have k5 := HD.out w5 hK5
             have HO5 := (show Hid (w5.ownsRow w1.heap.size 3 1 v5 j (ints (Q.take j))) from hown5)
             have HK5 := (show Hid (Keep [] w1 w5) from hK5)
             clear hown5 hgrow5 hK5)
          | (refine step_append_ints rfl (.tmp 33) (.tmp 40) 23 rfl w1.heap.size 3 i0 Tryz.underlying23 hI.out v5 j (Q.take j) (Q.drop p) rfl HO5.out _ (n - p) _ HDK.out rfl (HDI.out.keep HK5.out (fun _ _ _ => by simp)) (by simp) (by omega) HK5.out.size ?_
             intro v6 w6 hown6 hgrow6
             have hK6 := HK5.out.grown hgrow6 (own_block HO5.out)
             rw [HRR.out] at hown6
             obtain ⟨l6, c6, rfl⟩ := (own_mid hown6).form
             have HF := (show Hid (Has w0 F0 ((rfinA fb mb ws kd ds L R).star (blockA bx (gotO 0 0))) (w6.setCell ⟨fb, 2, none⟩ (.slice l6 R.length c6))) from HX.out.rset2B hK6 hown6 HBR.out HE.out.1 HE.out.2.2.1)
             obtain ⟨_, _, _, _, f2⟩ := rfobj_cells (HX.out.keep0 hK6).fst.rfcells
             clear hown6 hgrow6 hK6))
        all_goals (
          go_wp2_with fail
          go_meet
          exact ⟨rfl, HF.out⟩)
      case rest =>
        obtain ⟨w7, rfl⟩ : ∃ w7, w7 = wc := ⟨_, rfl⟩
        obtain ⟨rfl, hcut⟩ := hcut
        have HF := hid hcut.out
        have hx2 := HF.out.gotO
        obtain ⟨f0, f1⟩ := two_free hx2
        obtain ⟨d0, d1⟩ := two_cells hx2
        clear hcut HX HTI HDI HD k2 c2 hfb hgs hc
        go_wp2_with fail
        obtain ⟨z, hk4⟩ := two_put hx2 (.int .i64 x) (.int .i64 0)
        refine bodyPost_ret (results_cell_row rfl _ _ bx 34 #[.int .i64 x, .int .i64 0] (0, 0) _ rfl z Tryz.underlying34 rfl (by kernel_rfl)) rfl ?_
        exact ⟨rfl, (HF.out.block hk4 z).fst⟩
end

end Go.Proofs.YtjlbfojbgnhhbaaGreat

/-
  A list of bytes, opened once for all: what each element holds.
-/
namespace Go.Proofs.YtjlbfojbgnhhbaaGreat
open Go.ChangeShapes Go.WideShapes Go.ChangeAt Go.RowKit

theorem lt_of_cell' {w : World} {b o : Nat} {v : Value} (h : w.cell? ⟨b, o, none⟩ = some v) : b < w.heap.size := by
  rcases Nat.lt_or_ge b w.heap.size with h' | h'
  · exact h'
  · simp [World.cell?, Array.getElem?_eq_none h'] at h

section
variable {H : Type} {enc : TypeId × Value → H} {P : Program} {w : World} {base : Nat} {spare : Nat → Bool} {held : Bool}

theorem open_u8s {t e : TypeId} {fuel len cap : Nat} {ao : Option Addr} {x : DataW H × List MemPlace} (ht : P.underlying t = some (.slice e)) (he : P.underlying e = some (.int .u8))
    (ce : P.cellsOf e = 1) (h : DataW.trod enc P w base spare held fuel t [.slice ao len cap] = some x) :
    len ≤ 9223372036854775807 ∧ ∃ A, U8At w ao len A := by
  rcases Go.Deep.open_slice1 ht ce h with ⟨h0, _⟩ | ⟨a, len', cap', m, n, V, D, Pl, hcs, hb, hl, hm, hmm, _, hx⟩
  · simp at h0
    obtain ⟨rfl, rfl, rfl⟩ := h0
    exact ⟨by omega, fun _ => 0, fun h => by omega, by simp⟩
  · simp at hcs
    obtain ⟨rfl, rfl, rfl⟩ := hcs
    unfold maxLen at hm
    refine ⟨by omega, ?_⟩
    have hlm : len ≤ m := by rw [hmm]; split <;> omega
    have each : ∀ i, i < len → ∃ z : Nat, w.cell? (a.add i) = some (.int .u8 z) ∧ z < 256 := by
      intro i hi
      obtain ⟨h1, h2⟩ := hx i (by omega)
      obtain ⟨z, hz, _, hw⟩ := DataW.trod_int he h2
      have hz' : V i = .int .u8 z := by simpa using hz
      have hb := bounds_u8 hw
      obtain ⟨k, rfl⟩ := Int.eq_ofNat_of_zero_le hb.1
      exact ⟨k, by rw [h1, hz'], by omega⟩
    by_cases h0 : 0 < len
    · obtain ⟨b, off, spot⟩ := a
      obtain ⟨z, hz, _⟩ := each 0 h0
      have hspot : spot = none := by simpa [Addr.add] using World.cell?_spot hz
      subst hspot
      have each' : ∀ i, i < len → ∃ z : Nat, w.cell? ⟨b, off + i, none⟩ = some (.int .u8 z) ∧ z < 256 := fun i hi => by
        have := each i hi
        rwa [Go.WideShapes.add_plain] at this
      refine ⟨fun i => if i < len then (intOf ((w.cell? ⟨b, off + i, none⟩).getD undef)).toNat else 0, fun _ => ⟨b, off, rfl, ?_, ?_⟩, ?_⟩
      · obtain ⟨z, hz, _⟩ := each' 0 h0
        exact lt_of_cell' hz
      · intro i hi
        obtain ⟨z, hz, _⟩ := each' i hi
        simp [hi, hz, intOf]
      · intro i
        by_cases hc : i < len
        · obtain ⟨z, hz, hw⟩ := each' i hc
          simp only [hc, hz, intOf, if_true, Option.getD_some]; omega
        · rw [if_neg hc]; omega
    · exact ⟨fun _ => 0, fun h => absurd h h0, by simp⟩
end

end Go.Proofs.YtjlbfojbgnhhbaaGreat

/-
  Two lists of objects: as they lie in memory, and whether they are one.
-/
namespace Go.Proofs.YtjlbfojbgnhhbaaGreat
open Go.RowKit

/-- An object in memory: its fields lie wherever they lie. -/
structure RV where
  o : OM
  la : Option Addr
  lc : Nat
def RV.cells (v : RV) : List Value := [.int .i64 v.o.a, .int .i64 v.o.k, .int .i64 v.o.c, .int .i64 v.o.l, .bool v.o.f, .slice v.la v.o.L.length v.lc]
def flatR (vs : List RV) : List Value := vs.flatMap RV.cells
theorem flatR_app (vs us : List RV) : flatR (vs ++ us) = flatR vs ++ flatR us := by simp [flatR]
theorem flatR_one (v : RV) : flatR [v] = v.cells := by simp [flatR]
theorem flatR_length (vs : List RV) : (flatR vs).length = vs.length * 6 := by
  induction vs with
  | nil => rfl
  | cons c cs ih => simp [flatR, RV.cells] at *; omega
theorem flatR_get (vs : List RV) (i : Nat) (v : RV) (h : vs[i]? = some v) (t : Nat) (ht : t < 6) : (flatR vs)[i * 6 + t]? = v.cells[t]? := by
  induction vs generalizing i with
  | nil => simp at h
  | cons d vs ih =>
    have e : flatR (d :: vs) = d.cells ++ flatR vs := by simp [flatR]
    have hd : d.cells.length = 6 := rfl
    rw [e]
    cases i with
    | zero => simp at h; subst h; rw [List.getElem?_append_left (by omega)]; simp
    | succ i =>
      simp at h
      rw [List.getElem?_append_right (by omega), hd, show (i + 1) * 6 + t - 6 = i * 6 + t by omega]
      exact ih i h
def OV.rv (v : OV) : RV := ⟨v.o, some ⟨v.z, 0, none⟩, v.o.L.length⟩
theorem flatO_rv (vs : List OV) : flatO vs = flatR (vs.map OV.rv) := by
  induction vs with
  | nil => rfl
  | cons v vs ih => simp [flatO, flatR, OV.cells, RV.cells, OV.rv] at *; exact ih

/-- A list of objects that is read. -/
structure ObjL (w : World) (va : Option Addr) (n : Nat) (vs : List RV) : Prop where
  len : vs.length = n
  cells : 0 < n → ∃ b, va = some ⟨b, 0, none⟩ ∧ b < w.heap.size ∧ ∀ (i : Nat) (v : RV) (t : Nat), vs[i]? = some v → t < 6 → w.cell? ⟨b, i * 6 + t, none⟩ = v.cells[t]?
  each : ∀ (i : Nat) (v : RV), vs[i]? = some v → IntsAt w v.la v.o.L ∧ v.o.L.length ≤ 1000000
theorem ObjL.keep0 {w w' : World} {va : Option Addr} {n : Nat} {vs : List RV} (h : ObjL w va n vs) (K : Keep [] w w') : ObjL w' va n vs :=
  ⟨h.len, fun h0 => by
    obtain ⟨b, e, hb, hc⟩ := h.cells h0
    exact ⟨b, e, Nat.lt_of_lt_of_le hb K.size, fun i v t h1 h2 => (K.cell hb (by simp) _).trans (hc i v t h1 h2)⟩, fun i v e => ⟨(h.each i v e).1.keep K (fun _ _ _ => by simp), (h.each i v e).2⟩⟩
theorem own_cells {w : World} {base n vc : Nat} {va : Option Addr} {vs : List RV} (hown : w.ownsRow base 80 6 (.slice va n vc) n (flatR vs)) (hl : vs.length = n) (h0 : 0 < n) :
    ∃ b, va = some ⟨b, 0, none⟩ ∧ b < w.heap.size ∧ ∀ (i : Nat) (v : RV) (t : Nat), vs[i]? = some v → t < 6 → w.cell? ⟨b, i * 6 + t, none⟩ = v.cells[t]? := by
  rcases hown.2 with ⟨h1, h0⟩ | ⟨g, cap, cur, h1, h2, h3, h4, h5, h6, h7⟩
  · omega
  · cases h1
    refine ⟨g, rfl, lt_of_block h3, fun i v t hv ht => ?_⟩
    have hi : i < vs.length := by
      rcases Nat.lt_or_ge i vs.length with e | e
      · exact e
      · rw [List.getElem?_eq_none e] at hv; cases hv
    rw [hl] at hi
    have e := flatR_get vs i v hv t ht
    rw [← h7, List.getElem?_take, if_pos (by omega)] at e
    have e' : cur[i * 6 + t]? = v.cells[t]? := by simpa using e
    simp [World.cell?, h3, e']
theorem ObjsAt.read {w0 w : World} {va : Option Addr} {n vc : Nat} {vs : List OV} (h : ObjsAt w0 w va n vc vs) (hb : ∀ v, v ∈ vs → (∀ i : Nat, inI (v.o.L[i]?.getD 0)) ∧ v.o.L.length ≤ 1000000) : ObjL w va n (vs.map OV.rv) := by
  have ho := h.own
  rw [flatO_rv] at ho
  refine ⟨by rw [List.length_map]; exact h.len, own_cells ho (by rw [List.length_map]; exact h.len), fun i v e => ?_⟩
  rw [List.getElem?_map] at e
  cases hv : vs[i]? with
  | none => rw [hv] at e; cases e
  | some u =>
    rw [hv] at e
    simp at e
    subst e
    obtain ⟨h1, _⟩ := h.each i u hv
    obtain ⟨b1, b2⟩ := hb u (List.mem_of_getElem? hv)
    exact ⟨h1.ints b1, b2⟩

set_option maxRecDepth 100000 in
set_option maxHeartbeats 1600000 in
theorem sameObjs (va vb : Option Addr) (n c d : Nat) (us vs : List RV) (w : World) (hA : ObjL w va n us) (hB : ObjL w vb n vs) (he : us.map RV.o = vs.map RV.o) (hn : n ≤ 1000000) :
    Calls Tryz.prog 17 #[.slice va n c, .slice vb n d] w fun e w' => e = .returned (.bool true) ∧ Keep [] w w' := by
  have HA := (show Hid (ObjL w va n us) from hA)
  have HB := (show Hid (ObjL w vb n vs) from hB)
  have HE := (show Hid (us.map RV.o = vs.map RV.o) from he)
  clear hA hB he
  go_enter Tryz.func17, Tryz.ntmps17
  go_wp2
  go_loopw [5] (fun i wr => ∃ j : Nat, i = .int .i64 j ∧ j ≤ n ∧ Keep [] w wr) (fun i _ => n - (intOf i).toNat)
  case atStart => exact ⟨0, rfl, by omega, Keep.refl _ _⟩
  case round =>
    obtain ⟨j, rfl, hj, hK⟩ := hrel
    obtain ⟨w1, rfl⟩ : ∃ w1, w1 = wr := ⟨_, rfl⟩
    by_cases hlt : j < n
    · have hA1 := HA.out.keep0 hK
      have hB1 := HB.out.keep0 hK
      obtain ⟨u, hu⟩ : ∃ u, us[j]? = some u := ⟨us[j]'(by rw [hA1.len]; exact hlt), by simp [hA1.len, hlt]⟩
      obtain ⟨v, hv⟩ : ∃ v, vs[j]? = some v := ⟨vs[j]'(by rw [hB1.len]; exact hlt), by simp [hB1.len, hlt]⟩
      have huv : u.o = v.o := by
        have := congrArg (fun l : List OM => l[j]?) HE.out
        simpa [List.getElem?_map, hu, hv] using this
      obtain ⟨b, rfl, hbs, hcell⟩ := hA1.cells (by omega)
      obtain ⟨b2, rfl, hbs2, hcell2⟩ := hB1.cells (by omega)
      have x0 := hcell j u 0 hu (by omega)
      have x1 := hcell j u 1 hu (by omega)
      have x2 := hcell j u 2 hu (by omega)
      have x3 := hcell j u 3 hu (by omega)
      have x4 := hcell j u 4 hu (by omega)
      have x5 := hcell j u 5 hu (by omega)
      have y0 := hcell2 j v 0 hv (by omega)
      have y1 := hcell2 j v 1 hv (by omega)
      have y2 := hcell2 j v 2 hv (by omega)
      have y3 := hcell2 j v 3 hv (by omega)
      have y4 := hcell2 j v 4 hv (by omega)
      have y5 := hcell2 j v 5 hv (by omega)
      obtain ⟨hIu, hlu⟩ := hA1.each j u hu
      obtain ⟨hIv, hlv⟩ := hB1.each j v hv
      rw [← huv] at hIv
      simp only [RV.cells, ← huv, Nat.add_zero, List.getElem?_cons_zero, List.getElem?_cons_succ] at x0 x1 x2 x3 x4 x5 y0 y1 y2 y3 y4 y5
      have HIU := (show Hid (IntsAt w1 u.la u.o.L ∧ IntsAt w1 v.la u.o.L) from ⟨hIu, hIv⟩)
      obtain ⟨m, hm⟩ : ∃ m, u.o.L.length = m := ⟨_, rfl⟩
      have HM := (show Hid (u.o.L.length = m) from hm)
      rw [hm] at x5 y5 hlu
      clear hA1 hB1 hcell hcell2 hIu hIv huv hu hv hm hlv
      generalize u.o.a = qa at *
      generalize u.o.k = qk at *
      generalize u.o.c = qc at *
      generalize u.o.l = ql at *
      generalize u.o.f = qf at *
      go_wp2_with fail
      go_quiet (first | (go_at_call 14; exact Calls.quiet_of (same_q u.la v.la m u.lc v.lc u.o.L _ (HIU.out.1.keep (Keep.drewN [] _ _) (by simp [Off])) (HIU.out.2.keep (Keep.drewN [] _ _) (by simp [Off])) HM.out hlu)))
      have hK7 := hK.trans (Keep.drewN [] w1 nq)
      generalize w1.drewN nq = w7 at *
      go_wp2_with fail
      go_roundw
      case rel => exact ⟨j + 1, by go_num, by omega, hK7⟩
      case measure => simp [intOf]; omega
    · obtain rfl : j = n := by omega
      go_wp2_with fail
      go_ret
      exact ⟨rfl, hK⟩

end Go.Proofs.YtjlbfojbgnhhbaaGreat

/-
  The document's own heap: Objects.
-/
namespace Go.Proofs.YtjlbfojbgnhhbaaGreat
open Go.RowKit

/-- A list of objects that was made since w0. -/
structure RObjsAt (w0 w : World) (va : Option Addr) (n vc : Nat) (vs : List RV) : Prop where
  own : w.ownsRow w0.heap.size 80 6 (.slice va n vc) n (flatR vs)
  len : vs.length = n
  each : ∀ (i : Nat) (v : RV), vs[i]? = some v → IntsAt w v.la v.o.L ∧ v.o.L.length ≤ 1000000 ∧ ∀ a, v.la = some a → w0.heap.size ≤ a.block ∧ a.block < w.heap.size ∧ ∀ b, va = some b → b.block ≠ a.block
theorem RObjsAt.nil (w0 w : World) : RObjsAt w0 w none 0 0 [] := ⟨World.ownsRow_nil _ _ _ _, rfl, fun i v h => by simp at h⟩
theorem RObjsAt.keep0 {w0 w w' : World} {va : Option Addr} {n vc : Nat} {vs : List RV} (h : RObjsAt w0 w va n vc vs) (K : Keep [] w w') : RObjsAt w0 w' va n vc vs := by
  refine ⟨⟨h.own.1, ?_⟩, h.len, fun i v e => ?_⟩
  · rcases h.own.2 with h1 | ⟨g, cap, cur, h1, h2, h3, h4⟩
    · exact .inl h1
    · exact .inr ⟨g, cap, cur, h1, h2, K.blk h3 (by simp), h4⟩
  · obtain ⟨h1, h2, h3⟩ := h.each i v e
    exact ⟨h1.keep K (fun _ _ _ => by simp), h2, fun a e => ⟨(h3 a e).1, Nat.lt_of_lt_of_le (h3 a e).2.1 K.size, (h3 a e).2.2⟩⟩
theorem RObjsAt.read {w0 w : World} {va : Option Addr} {n vc : Nat} {vs : List RV} (h : RObjsAt w0 w va n vc vs) : ObjL w va n vs :=
  ⟨h.len, own_cells h.own h.len, fun i v e => ⟨(h.each i v e).1, (h.each i v e).2.1⟩⟩
theorem RObjsAt.far {w0 w : World} {va : Option Addr} {n vc : Nat} {vs : List RV} (h : RObjsAt w0 w va n vc vs) (k : Nat) (e : (Value.slice va n vc).ownBlock = some k) : w0.heap.size ≤ k ∧ k < w.heap.size ∧ ∃ a, va = some a ∧ a.block = k := by
  rcases h.own.2 with ⟨h1, _⟩ | ⟨g, cap, cur, h1, h2, h3, _⟩
  · rw [h1] at e; cases e
  · rw [h1] at e; cases e; cases h1; exact ⟨h2, lt_of_block h3, _, rfl, rfl⟩
theorem RObjsAt.grow {w0 w w4 : World} {va : Option Addr} {n vc : Nat} {vs : List RV} {ob : Obj} (h : RObjsAt w0 w va n vc vs) (K : Keep [] w0 w) (hg : (w.alloc ob).grownBy w4 (Value.slice va n vc).ownBlock) : Keep [] w0 w4 :=
  (K.trans (Keep.alloc [] w ob)).grown hg (fun k e => (h.far k e).1)
theorem RObjsAt.added {w0 w w4 : World} {va la : Option Addr} {n vc g cap lc : Nat} {vs : List RV} {o : OM} {ob : Obj} (h : RObjsAt w0 w va n vc vs) (hI : IntsAt w la o.L) (hL : o.L.length ≤ 1000000) (hla : ∀ a, la = some a → w0.heap.size ≤ a.block ∧ a.block < w.heap.size ∧ ∀ b, va = some b → b.block ≠ a.block)
    (hown : w4.ownsRow w0.heap.size 80 6 (.slice (some ⟨g, 0, none⟩) (n + 1) cap) (n + 1) (flatR vs ++ RV.cells ⟨o, la, lc⟩)) (hg : (w.alloc ob).grownBy w4 (Value.slice va n vc).ownBlock) (hat : (Value.slice va n vc).ownBlock = some g ∨ g = w.heap.size + 1) :
    RObjsAt w0 w4 (some ⟨g, 0, none⟩) (n + 1) cap (vs ++ [⟨o, la, lc⟩]) := by
  have ints : ∀ (ao : Option Addr) (M : List Int), IntsAt w ao M → (∀ a, ao = some a → a.block < w.heap.size ∧ ∀ b, va = some b → b.block ≠ a.block) → IntsAt w4 ao M ∧ ∀ a, ao = some a → a.block < w4.heap.size ∧ g ≠ a.block := by
    intro ao M hM ha
    have hne : ∀ a, ao = some a → (Value.slice va n vc).ownBlock ≠ some a.block := fun a e e' => by
      obtain ⟨_, _, b, e1, e2⟩ := h.far _ e'
      exact (ha a e).2 b e1 e2
    refine ⟨⟨fun h0 => ?_, hM.low, hM.high⟩, fun a e => ⟨Nat.lt_of_lt_of_le (ha a e).1 (Nat.le_trans (by simp) hg.size), fun e' => ?_⟩⟩
    · obtain ⟨b, off, rfl, hb, hc⟩ := hM.cells h0
      have e : w4.heap[b]? = w.heap[b]? := (hg.block b (by simp; omega) (fun e => hne _ rfl e.symm)).trans (Below.heap_alloc _ _ _ hb)
      exact ⟨b, off, rfl, Nat.lt_of_lt_of_le hb (Nat.le_trans (by simp) hg.size), fun i hi => (World.cell?_of_block (w := w) e).trans (hc i hi)⟩
    · rcases hat with e2 | e2
      · exact hne a e (by rw [e2, e'])
      · have := (ha a e).1; omega
  refine ⟨by rw [flatR_app, flatR_one]; exact hown, by simp [h.len], fun i v e => ?_⟩
  rcases Nat.lt_trichotomy i vs.length with hi | hi | hi
  · rw [List.getElem?_append_left hi] at e
    obtain ⟨h1, h2, h3⟩ := h.each i v e
    obtain ⟨r1, r2⟩ := ints _ _ h1 (fun a e => (h3 a e).2)
    exact ⟨r1, h2, fun a e => ⟨(h3 a e).1, (r2 a e).1, fun b eb => by cases eb; exact (r2 a e).2⟩⟩
  · subst hi
    simp at e
    subst e
    obtain ⟨r1, r2⟩ := ints _ _ hI (fun a e => (hla a e).2)
    exact ⟨r1, hL, fun a e => ⟨(hla a e).1, (r2 a e).1, fun b eb => by cases eb; exact (r2 a e).2⟩⟩
  · rw [List.getElem?_eq_none (by simp; omega)] at e; cases e

section
variable {w0 : World} {F0 : List Nat} {hb : Nat} {ws : List Int} {kd : List PK} {ds : List (Int × List Int)}
theorem words_at {w : World} {gw n : Nat} {ws : List Int} (hc : ∀ i, i < n → w.cell? ⟨gw, i, none⟩ = some (.int .i64 (ws[i]?.getD 0))) (hb : ∀ i : Nat, inI (ws[i]?.getD 0)) (b b1 q : Nat) (h1 : b + 1 = b1) (h2 : b1 + q ≤ n) : IntsAt w (some ⟨gw, b1, none⟩) (wordsL ws b (q : Int)) := by
  refine ⟨fun h0 => ⟨gw, b1, rfl, ?_, fun i hi => ?_⟩, fun i => (wordsL_bd hb b q i).1, fun i => (wordsL_bd hb b q i).2⟩
  · rw [wordsL_length, Int.toNat_natCast] at h0
    exact lt_of_cell2 (hc b1 (by omega))
  · rw [wordsL_length, Int.toNat_natCast] at hi
    rw [hc (b1 + i) (by omega), wordsL_get _ _ _ i (by rw [Int.toNat_natCast]; exact hi), h1]
set_option maxRecDepth 100000 in
set_option maxHeartbeats 3200000 in
theorem robjects (w : World) (h : Has w0 F0 (rheapA hb ws kd ds) w) :
    Calls Tryz.prog 19 #[.pointer (some ⟨hb, 0, none⟩)] w fun e w' => ∃ va vc vs, e = .returned (.slice va (eachK kd).length vc) ∧ ObjL w' va (eachK kd).length vs ∧ vs.map RV.o = objsK kd ws ∧ Keep [] w w' := by
  obtain ⟨i0, hi, hz0, hz1, hz2⟩ := info_parts Tryz.infoObj
  have hI : Hid (Tryz.prog.info? 80 = some i0 ∧ i0.zero = some (.agg #[.int .i64 0, .int .i64 0, .int .i64 0, .int .i64 0, .bool false, .slice none 0 0]) ∧ i0.size = 6 ∧ i0.bytes = 64) := ⟨hi, hz0, hz1, hz2⟩
  clear hi hz0 hz1 hz2
  obtain ⟨j0, hi, hz0, hz1, hz2⟩ := info_parts Tryz.infoIntC
  have hJ : Hid (Tryz.prog.info? 3 = some j0 ∧ j0.zero = some (.int .i64 0) ∧ j0.size = 1 ∧ j0.bytes = 8) := ⟨hi, hz0, hz1, hz2⟩
  clear hi hz0 hz1 hz2
  obtain ⟨mb, hr⟩ := h.rraw
  have hfi := h.rfine
  have HX := (show Hid (Has w0 F0 (rheapA hb ws kd ds) w) from h)
  have HR := (show Hid (Has w0 F0 (rrawA hb mb ws kd ds) w) from hr)
  have HF := (show Hid (Fine ws kd ds) from hfi)
  obtain ⟨c0, _⟩ := hr.rcells
  have hnb : (eachK kd).length ≤ 32 * kd.length := hfi.wf.each_len kd.length
  have hn2 := hfi.wf.len2
  obtain ⟨n, hn⟩ : ∃ n, (eachK kd).length = n := ⟨_, rfl⟩
  have HN := (show Hid ((eachK kd).length = n) from hn)
  rw [hn] at hnb ⊢
  obtain ⟨N6, hN6⟩ : ∃ N6, 64 * kd.length = N6 := ⟨_, rfl⟩
  have HN6 := (show Hid (64 * kd.length = N6) from hN6)
  have hN6b : N6 ≤ 16384 := by omega
  clear h hr hfi hn hN6
  go_enter Tryz.func19, Tryz.ntmps19
  go_wp2_with (first | (go_at_call 42; refine (yeach _ HR.out HF.out.wf).mono ?_; rw [HN.out]; rintro e w1 ⟨la, lc, rfl, hIn, hK1⟩))
  have HI := (show Hid (IntsAt w1 la (eachK kd)) from hIn)
  clear hIn
  go_loopw [3, 5] (fun v i wr => ∃ (j : Nat) (va : Option Addr) (vc : Nat) (vs : List RV), v = .slice va j vc ∧ i = .int .i64 j ∧ j ≤ n ∧ Hid (RObjsAt w1 wr va j vc vs) ∧ Hid (vs.map RV.o = (objsK kd ws).take j) ∧ Keep [] w1 wr) (fun _ i _ => n - (intOf i).toNat)
  case atStart => exact ⟨0, none, 0, [], rfl, rfl, by omega, RObjsAt.nil _ _, by show _ = _; simp, Keep.refl _ _⟩
  case round =>
    obtain ⟨j, va, vc, vs, rfl, rfl, hj, HO, HM, hK⟩ := hrel
    have hKw := hK1.trans hK
    by_cases hlt : j < n
    · obtain ⟨b, m, k, c, l, f, he, hA, hlm, hob⟩ := each_at9 HF.out j (by rw [HN.out]; exact hlt)
      obtain ⟨p, off, rfl, hps, hcell⟩ := HI.out.cells (by rw [HN.out]; omega)
      have hc := (hK.cell hps (by simp) (off + j)).trans (hcell j (by rw [HN.out]; exact hlt))
      rw [he] at hc
      simp only [Option.getD_some] at hc
      have HNX := (show Hid ((objsK kd ws).take (j + 1) = (objsK kd ws).take j ++ [⟨b, k, c, l, f, wordsL ws b l⟩]) from by
        show _ = _
        have : (objsK kd ws)[j]? = some ⟨b, k, c, l, f, wordsL ws b l⟩ := by unfold objsK; rw [List.getElem?_map, he, ← hob]; rfl
        rw [List.take_add_one, this]; rfl)
      obtain ⟨_, e1, e2, e3, e4, e5⟩ := hA.facts HF.out.wf
      have hbd := hA.2.2.bd
      obtain ⟨q, hq⟩ := Int.eq_ofNat_of_zero_le hbd.2.2.2.2.1
      subst hq
      have HT := (show Hid (HeadT kd ws (b : Int) k c (q : Int) f 0) from .yes b m k c q f hA)
      have HL := (show Hid ((wordsL ws b (q : Int)).length = q) from by show _ = _; rw [wordsL_length]; rfl)
      obtain ⟨b1, hb1⟩ : ∃ b1 : Nat, b + 1 = b1 := ⟨_, rfl⟩
      obtain ⟨b2, hb2⟩ : ∃ b2 : Nat, b1 + q = b2 := ⟨_, rfl⟩
      have hb1i : (b : Int) + 1 = b1 := by omega
      have hb2i : (b1 : Int) + q = b2 := by omega
      have hb2l : b2 ≤ N6 := by have := HN6.out; omega
      have HBB := (show Hid (b + 1 = b1 ∧ b1 + q = b2) from ⟨hb1, hb2⟩)
      have hw1 : IntKind.i64.wrap (b1 : Int) = b1 := IntWalk.i64_in _ (by omega)
      have hw2 : IntKind.i64.wrap (b2 : Int) = b2 := IntWalk.i64_in _ (by omega)
      have hz1 : (0 : Int) ≤ (b1 : Int) := by omega
      have hz2 : (0 : Int) ≤ (b2 : Int) := by omega
      have hz3 : (b1 : Int) ≤ (b2 : Int) := by omega
      have hz4 : (b2 : Int) ≤ (N6 : Int) := by omega
      have hz5 : b1 ≤ b2 := by omega
      have hsq : b2 - b1 = q := by omega
      have hbb : b ≤ 20000 := by omega
      have hq3 : q ≤ 1023 := by omega
      clear hcell hA hbd he hob hlm e1 e2 e3 e4 e5 hb1 hb2
      go_upto_region 7 with (first | (go_at_call 43; refine (rhead b k c q 0 f _ (HX.out.keep0 hKw) HT.out).mono ?_; rintro e w3 ⟨rfl, hK3⟩))
      have hx3 := heap_alloc_new w3 (.cells #[.int .i64 k, .int .i64 c, .int .i64 q, .bool f, .bool (okE 0)] 89)
      have hKx := hK3.trans (Keep.alloc [] w3 (.cells #[.int .i64 k, .int .i64 c, .int .i64 q, .bool f, .bool (okE 0)] 89))
      have hK4 := hKw.trans hKx
      have hK4b := hK.trans hKx
      have hO4 := HO.out.keep0 hKx
      have hva : ∀ a, va = some a → a.block ≠ w3.heap.size := by
        intro a e
        rcases HO.out.own.2 with ⟨h1, _⟩ | ⟨g, cap, cur, h1, h2, h3, _⟩
        · cases h1; cases e
        · cases h1; cases e
          have := lt_of_block h3
          have := hK3.size
          show g ≠ _
          omega
      have HVA := (show Hid (∀ a, va = some a → a.block ≠ w3.heap.size) from hva)
      clear hva
      generalize w3.alloc (.cells #[.int .i64 k, .int .i64 c, .int .i64 q, .bool f, .bool (okE 0)] 89) = w4 at *
      generalize w3.heap.size = bx at *
      obtain ⟨_, x0, x1, x2, x3, _⟩ := five_free hx3
      obtain ⟨q0, _, ⟨gw, q1, q2⟩, _⟩ := (HR.out.keep0 hK4).rcells
      rw [HN6.out] at q1 q2
      have hc4 := (hKx.cell (lt_of_cell2 hc) (by simp) (off + j)).trans hc
      have hKE := (Keep.alloc [] w4 (.cells #[] 3)).trans (Keep.drew [] _)
      have HOE := (show Hid (((w4.alloc (.cells #[] 3)).drew).ownsRow w4.heap.size 3 1 (.slice (some ⟨w4.heap.size, 0, none⟩) 0 0) 0 (ints [])) from own_empty w4 3)
      obtain ⟨xo, hxo⟩ : ∃ xo, (if N6 = b1 then some (⟨gw, 0, none⟩ : Addr) else some ⟨gw, b1, none⟩) = xo := ⟨_, rfl⟩
      obtain ⟨xc, hxc⟩ : ∃ xc, N6 - b1 = xc := ⟨_, rfl⟩
      have HIW := (show Hid (IntsAt ((w4.alloc (.cells #[] 3)).drew) xo (wordsL ws b (q : Int)) ∧ (xo = none → xc = 0)) from by
        refine ⟨?_, fun e => by rw [e] at hxo; split at hxo <;> cases hxo⟩
        by_cases e : N6 = b1
        · have hq0 : q = 0 := by omega
          subst hq0
          exact IntsAt.nil _ _
        · rw [if_neg e] at hxo
          subst hxo
          exact (words_at (fun i hi => (q2 i hi).1) HF.out.ob.bd b b1 q HBB.out.1 (by omega)).keep hKE (fun _ _ _ => by simp))
      have HNV := (show Hid ((∀ B, B < w1.heap.size → B ∉ va.toList.map (·.block)) ∧ bx ∉ va.toList.map (·.block)) from ⟨fun B hB e => by
        simp at e
        obtain ⟨a, e1, e2⟩ := e
        have := (HO.out.far a.block (by rw [e1]; rfl)).1
        omega, fun e => by
        simp at e
        obtain ⟨a, e1, e2⟩ := e
        exact HVA.out a e1 e2⟩)
      have HLW := (show Hid (hb < w1.heap.size ∧ mb < w1.heap.size ∧ p < w1.heap.size) from by
        obtain ⟨r0, _, ⟨gw', r1, _⟩, _⟩ := (HR.out.keep0 hK1).rcells
        exact ⟨lt_of_cell2 r0, lt_of_cell2 r1, hps⟩)
      have HLL := (show Hid ((wordsL ws b (q : Int)).length ≤ 1000000) from by show _ ≤ _; rw [HL.out]; omega)
      have hm1 : j + 1 ≤ maxLen := by unfold maxLen; omega
      have hm2 : (j + 1) * 64 ≤ 140737488355328 := by omega
      clear q2 hc hK3 hKx HVA
      go_region_held3 (fun wz => wz.cell? ⟨hb, 0, none⟩ = some (.pointer (some ⟨mb, 0, none⟩)) ∧ wz.cell? ⟨mb, 0, none⟩ = some (.slice (some ⟨gw, 0, none⟩) N6 N6) ∧ wz.cell? ⟨p, off + j, none⟩ = some (.int .i64 b) ∧ wz.cell? ⟨bx, 0, none⟩ = some (.int .i64 k) ∧ wz.cell? ⟨bx, 1, none⟩ = some (.int .i64 c) ∧ wz.cell? ⟨bx, 2, none⟩ = some (.int .i64 q) ∧ wz.cell? ⟨bx, 3, none⟩ = some (.bool f)) (go_keep) (first
        | (refine step_append_own0 rfl (.tmp 31) (.tmp 53) 23 rfl w4.heap.size 3 j0 Tryz.underlying23 hJ.out (wordsL ws b (q : Int)) w4.heap.size rfl HOE.out (by simp) xo q xc HL.out rfl HIW.out.1 HIW.out.2 (by omega) ?_; intro la2 lc2 w6 hG1 hG2 hG3 hgr; have hK6 : Keep [] w4 w6 := (hKE.grown hgr (fun k e => by cases e; exact Nat.le_refl _)); have y0 := (hK6.cell (lt_of_cell2 q0) (by simp) 0).trans q0; have y1 := (hK6.cell (lt_of_cell2 q1) (by simp) 0).trans q1; have y2 := (hK6.cell (lt_of_cell2 hc4) (by simp) (off + j)).trans hc4; have y3 := (hK6.cell (lt_of_cell2 x0) (by simp) 0).trans x0; have y4 := (hK6.cell (lt_of_cell2 x1) (by simp) 1).trans x1; have y5 := (hK6.cell (lt_of_cell2 x2) (by simp) 2).trans x2; have y6 := (hK6.cell (lt_of_cell2 x3) (by simp) 3).trans x3; have HO6 := (show Hid (RObjsAt w1 w6 va j vc vs ∧ Keep [] w1 w6) from ⟨hO4.keep0 hK6, hK4b.trans hK6⟩); have HZ := (show Hid (IntsAt w6 la2 (wordsL ws b (q : Int)) ∧ (∀ a, la2 = some a → w1.heap.size ≤ a.block ∧ a.block < w6.heap.size ∧ ∀ z, va = some z → z.block ≠ a.block)) from ⟨hG1, fun a e => ⟨by have := (hG3 a e).1; have := hK4b.size; omega, (hG3 a e).2, fun z ez => by have := (hG3 a e).1; have := (hO4.far z.block (by rw [ez]; rfl)).2.1; omega⟩⟩); have HCE := (show Hid (RV.cells ⟨⟨b, k, c, q, f, wordsL ws b (q : Int)⟩, la2, lc2⟩ = [.int .i64 b, .int .i64 k, .int .i64 c, .int .i64 q, .bool f, .slice la2 q lc2]) from (by show _ = _; unfold RV.cells; rw [HL.out])); have HOA := (show Hid ((w6.alloc (.cells #[.int .i64 b, .int .i64 k, .int .i64 c, .int .i64 q, .bool f, .slice la2 q lc2] 80)).ownsRow w1.heap.size 80 6 (.slice va j vc) j (flatR vs) ∧ w1.heap.size ≤ (w6.alloc (.cells #[.int .i64 b, .int .i64 k, .int .i64 c, .int .i64 q, .bool f, .slice la2 q lc2] 80)).heap.size) from ⟨(HO6.out.1.keep0 (Keep.alloc [] w6 (.cells #[.int .i64 b, .int .i64 k, .int .i64 c, .int .i64 q, .bool f, .slice la2 q lc2] 80))).own, by have := HO6.out.2.size; simp; omega⟩); clear hG1 hG2 hG3 hgr hK6)
        | (refine step_append_lies (w6.alloc (.cells #[.int .i64 b, .int .i64 k, .int .i64 c, .int .i64 q, .bool f, .slice la2 q lc2] 80)) rfl (.tmp 24) (.tmp 56) 50 rfl w1.heap.size 80 i0 (.agg #[.int .i64 0, .int .i64 0, .int .i64 0, .int .i64 0, .bool false, .slice none 0 0]) 6 64 Tryz.underlying50 hI.out.1 hI.out.2.1 hI.out.2.2.1 hI.out.2.2.2 rfl (by decide) (.slice va j vc) j (flatR vs) rfl HOA.out.1 ⟨w6.heap.size, 0, none⟩ 1 1 [.int .i64 b, .int .i64 k, .int .i64 c, .int .i64 q, .bool f, .slice la2 q lc2] rfl rfl (World.news_of_block (heap_alloc_new w6 (.cells #[.int .i64 b, .int .i64 k, .int .i64 c, .int .i64 q, .bool f, .slice la2 q lc2] 80))) (oneCells6 b k c q f la2 q lc2) Nat.one_pos hm1 hm2 HOA.out.2 (w6.heap.size + 1) (by simp) ?_; intro g cap w7 hown hgrow hat hltg; have HADD := (show Hid (RObjsAt w1 w7 (some ⟨g, 0, none⟩) (j + 1) cap (vs ++ [⟨⟨b, k, c, q, f, wordsL ws b (q : Int)⟩, la2, lc2⟩]) ∧ Keep [] w1 w7) from ⟨HO6.out.1.added (o := ⟨b, k, c, q, f, wordsL ws b (q : Int)⟩) HZ.out.1 (show (wordsL ws b (q : Int)).length ≤ 1000000 from HLL.out) HZ.out.2 (by rw [HCE.out]; exact hown) hgrow hat, HO6.out.1.grow HO6.out.2 hgrow⟩); have K67 := (Keep.alloc (va.toList.map (·.block)) w6 (.cells #[.int .i64 b, .int .i64 k, .int .i64 c, .int .i64 q, .bool f, .slice la2 q lc2] 80)).trans (grown_keep hgrow); have z0 := (K67.cell (lt_of_cell2 y0) (HNV.out.1 _ HLW.out.1) 0).trans y0; have z1 := (K67.cell (lt_of_cell2 y1) (HNV.out.1 _ HLW.out.2.1) 0).trans y1; have z2 := (K67.cell (lt_of_cell2 y2) (HNV.out.1 _ HLW.out.2.2) (off + j)).trans y2; have z3 := (K67.cell (lt_of_cell2 y3) HNV.out.2 0).trans y3; have z4 := (K67.cell (lt_of_cell2 y4) HNV.out.2 1).trans y4; have z5 := (K67.cell (lt_of_cell2 y5) HNV.out.2 2).trans y5; have z6 := (K67.cell (lt_of_cell2 y6) HNV.out.2 3).trans y6; clear hown hgrow hat hltg K67))
      go_wp2_with fail
      go_roundw
      case rel => exact ⟨j + 1, _, _, _, rfl, by go_num, by omega, HADD.out.1, (by show _ = _; rw [HNX.out, List.map_append, HM.out]; rfl), HADD.out.2⟩
      case measure => simp [intOf]; omega
    · obtain rfl : j = n := by omega
      have HMM := (show Hid (vs.map RV.o = objsK kd ws) from by
        show _ = _
        rw [HM.out, List.take_of_length_le (by rw [objsK_length, HN.out]; omega)])
      have HRD := (show Hid (ObjL wr va j vs) from HO.out.read)
      go_wp2_with fail
      go_ret
      exact ⟨va, vc, vs, rfl, HRD.out, HMM.out, hKw⟩
end

end Go.Proofs.YtjlbfojbgnhhbaaGreat

/-
  The program's heap beside the document's own: what is asked of both; addresses by place.
-/
namespace Go.Proofs.YtjlbfojbgnhhbaaGreat
open Go.RowKit

/-- An address, or a place among objects. -/
def addrI (kd : List PK) (a : Int) : Int := if 0 < (eachK kd).length ∧ 0 ≤ a ∧ a < 64 then (eachK kd)[a.toNat % (eachK kd).length]?.getD 0 else a
theorem addrI_in {kd : List PK} (h : WF kd) (a : Int) (ha : inI a) : inI (addrI kd a) := by
  unfold addrI
  split
  · have := h.each_bd kd.length (a.toNat % (eachK kd).length)
    exact this
  · exact ha
section
variable {w0 : World} {F0 : List Nat} {mb : Nat} {ws : List Int} {kd : List PK} {ds : List (Int × List Int)}
end

/-! ### What is asked through the heaps, told where their parts lie -/
section
variable {w0 : World} {F0 : List Nat} {hb : Nat} {ws : List Int} {kd : List PK} {ds : List (Int × List Int)}
theorem Has.rptr {w : World} (h : Has w0 F0 (rheapA hb ws kd ds) w) : ∃ mb, w.cell? ⟨hb, 0, none⟩ = some (.pointer (some ⟨mb, 0, none⟩)) := by
  obtain ⟨mb, hr⟩ := h.rraw
  exact ⟨mb, hr.rcells.1⟩
end
theorem refsT_len {w0 w : World} {F0 : List Nat} {hb : Nat} {ws : List Int} {kd : List PK} {ds : List (Int × List Int)} {a : Int} {L : List Int} (h : Has w0 F0 (heapA hb ws kd ds) w) (hT : RefsT kd ws ds a L) : L.length ≤ 1000000 := by
  cases hT with
  | none _ => simp
  | data _ _ _ _ _ _ => simp
  | ref _ _ _ _ _ _ => simp
  | refs b m c l f hA => rw [upL_length]; have := hA.2.2.bd; omega
  | plain b m i c l f L hA e hi =>
    obtain ⟨sb, tb, hr⟩ := h.raw
    obtain ⟨F, va, vc, cs, hT, rfl⟩ := hr.tab
    rw [List.getElem?_map] at hi
    cases hc : cs[i]? with
    | none => rw [hc] at hi; cases hi
    | some v =>
      rw [hc] at hi
      simp [CV.d] at hi
      rw [← hi.2]
      exact (hT.each i v hc).2.2.1
theorem objs_ok {ws : List Int} {kd : List PK} {ds : List (Int × List Int)} {vs : List OV} (h : Fine ws kd ds) (hv : vs.map OV.o = objsK kd ws) : ∀ v, v ∈ vs → (∀ i : Nat, inI (v.o.L[i]?.getD 0)) ∧ v.o.L.length ≤ 1000000 := by
  intro v hm
  have h1 : v.o ∈ objsK kd ws := by rw [← hv]; exact List.mem_map_of_mem hm
  unfold objsK at h1
  rw [List.mem_map] at h1
  obtain ⟨a, ha, e⟩ := h1
  obtain ⟨b, n, rfl, _, _, hf⟩ := h.wf.each_in kd.length a ha
  obtain ⟨k, c, l, f, w1, w2, _⟩ := h.ob.head b n hf
  obtain ⟨_, _, p1, p2, p3, p4⟩ := w1.parts
  have hb := w1.bd
  rw [← e]
  unfold objOf
  simp only [Int.toNat_natCast]
  refine ⟨wordsL_bd h.ob.bd _ _, ?_⟩
  rw [wordsL_length, p3]
  omega
theorem duo_raw {w0 w : World} {F0 : List Nat} {hb mb : Nat} {ws us : List Int} {kd jd : List PK} {ds es : List (Int × List Int)} {B : Asn} (h : Has w0 F0 (((heapA hb ws kd ds).star (rheapA mb us jd es)).star B) w) : ∃ sb tb sm, Has w0 F0 (((rawA hb sb tb ws kd ds).star (rrawA mb sm us jd es)).star B) w := by
  obtain ⟨F, ⟨F1, F2, hF, ⟨F3, F4, hF', ⟨⟨sb, tb, h1⟩, _⟩, ⟨⟨sm, h2⟩, _⟩, hd'⟩, h3, hd⟩, u⟩ := h
  exact ⟨sb, tb, sm, F, ⟨F1, F2, hF, ⟨F3, F4, hF', h1, h2, hd'⟩, h3, hd⟩, u⟩
theorem duo_heap {w0 w : World} {F0 : List Nat} {hb mb sb tb sm : Nat} {ws : List Int} {kd : List PK} {ds : List (Int × List Int)} {B : Asn} (h : Has w0 F0 (((rawA hb sb tb ws kd ds).star (rrawA mb sm ws kd ds)).star B) w) (hf : Fine ws kd ds) : Has w0 F0 (((heapA hb ws kd ds).star (rheapA mb ws kd ds)).star B) w := by
  obtain ⟨F, ⟨F1, F2, hF, ⟨F3, F4, hF', h1, h2, hd'⟩, h3, hd⟩, u⟩ := h
  exact ⟨F, ⟨F1, F2, hF, ⟨F3, F4, hF', ⟨⟨sb, tb, h1⟩, hf⟩, ⟨⟨sm, h2⟩, hf⟩, hd'⟩, h3, hd⟩, u⟩
theorem ten_cells {w : World} {b : Nat} {t : TypeId} {a0 a1 a2 a3 a4 a5 a6 a7 a8 a9 : Value} (h : w.heap[b]? = some (.cells #[a0, a1, a2, a3, a4, a5, a6, a7, a8, a9] t (0, 0))) :
    w.cell? ⟨b, 0, none⟩ = some a0 ∧ w.cell? ⟨b, 1, none⟩ = some a1 ∧ w.cell? ⟨b, 2, none⟩ = some a2 ∧ w.cell? ⟨b, 3, none⟩ = some a3 ∧ w.cell? ⟨b, 4, none⟩ = some a4 ∧ w.cell? ⟨b, 5, none⟩ = some a5 ∧ w.cell? ⟨b, 6, none⟩ = some a6 ∧ w.cell? ⟨b, 7, none⟩ = some a7 ∧ w.cell? ⟨b, 8, none⟩ = some a8 ∧ w.cell? ⟨b, 9, none⟩ = some a9 := by
  refine ⟨?_, ?_, ?_, ?_, ?_, ?_, ?_, ?_, ?_, ?_⟩ <;> simp [World.cell?, h]

/-- Something asked of a heap, in memory. -/
structure AV where
  d : Int
  k : Int
  c : Int
  l : Int
  f : Bool
  cf : Int
  ca : Option Addr
  cc : Nat
  cL : List Int
  a : Int
  i : Int
  x : Int
def AV.cells (v : AV) : List Value := [.int .i64 v.d, .int .i64 v.k, .int .i64 v.c, .int .i64 v.l, .bool v.f, .int .i64 v.cf, .slice v.ca v.cL.length v.cc, .int .i64 v.a, .int .i64 v.i, .int .i64 v.x]
structure AV.ok (w : World) (v : AV) : Prop where
  d : inI v.d
  k : inI v.k
  c : inI v.c
  l : inI v.l
  cf : inI v.cf
  a : inI v.a
  i : inI v.i
  x : inI v.x
  cap : v.ca = none → v.cc = 0
  ints : IntsAt w v.ca v.cL
/-- A list of what is asked: n in all, the first N of it are met. -/
structure AskAt (w : World) (ao : Option Addr) (n N : Nat) (A : Nat → AV) : Prop where
  cells : 0 < N → ∃ b off, ao = some ⟨b, off, none⟩ ∧ b < w.heap.size ∧ ∀ i t, i < N → t < 10 → w.cell? ⟨b, off + (i * 10 + t), none⟩ = (A i).cells[t]?
  ok : ∀ i, i < N → (A i).ok w ∧ (A i).cL.length ≤ 1000000
  few : N ≤ n ∧ N ≤ 60 ∧ (N = n ∨ N = 60)

end Go.Proofs.YtjlbfojbgnhhbaaGreat

/-
  References made one behind the other in a heap that is new: what there is then. Plain facts.
-/
namespace Go.Proofs.YtjlbfojbgnhhbaaGreat
open Go.RowKit

/-- The first n references: words, pages and addresses, one by one. -/
structure Chain (n : Nat) (W : Nat → List Int) (K : Nat → List PK) (A : Nat → Nat) : Prop where
  w0 : W 0 = zeros (64 * 40)
  k0 : K 0 = freshK 40
  step : ∀ i, i < n → MakeT (K i) (W i) [] 4 (1 + ((i % 3 : Nat) : Int)) 5 false (A i : Int) 0 (W (i + 1)) (K (i + 1))
  fine : ∀ i, i ≤ n → Fine (W i) (K i) [] ∧ (K i).length = 40 ∧ FreeFrom (K i) (1 + i)
  refs : ∀ i, i ≤ n → ∀ j, j < i → ∃ (m : Nat) (c : Int), At (K i) (W i) (A j : Nat) (A j) m 4 c 5 false
  only : ∀ i, i ≤ n → ∀ (a : Int) (b m : Nat) (k c l : Int) (f : Bool), At (K i) (W i) a b m k c l f → ∃ j, j < i ∧ a = (A j : Int)
  ne : ∀ i j, i < n → j < i → A i ≠ A j

theorem may_ref3 (i : Nat) : mayH 4 (1 + ((i % 3 : Nat) : Int)) 5 false = true := by
  rw [mayH_4, inB_yes (by omega) (by omega), inB_yes (by omega) (by omega)]; rfl
theorem pages6 : pagesI (5 + 1) ≤ (1 : Nat) := by decide
theorem chain_ex (n : Nat) (hn : n ≤ 30) : ∃ W K A, Chain n W K A := by
  induction n with
  | zero =>
    refine ⟨fun _ => zeros (64 * 40), fun _ => freshK 40, fun _ => 0, rfl, rfl, fun i h => by omega, fun i h => ⟨Fine.fresh 40 (by omega) (by omega), freshK_length 40, ?_⟩, fun i h j hj => by omega, fun i h a b m k c l f hA => ?_, fun i j h => by omega⟩
    · exact (FreeFrom.fresh 40 (by omega)).mono (by omega)
    · have := hA.2.1
      rw [freshK_find 40 _ (by omega)] at this
      cases this
  | succ n ih =>
    obtain ⟨W, K, A, hC⟩ := ih (by omega)
    obtain ⟨hf, hk, hfree⟩ := hC.fine n (Nat.le_refl _)
    obtain ⟨a, b, kd', t1, r1, e1, g1⟩ := make_from (kd := K n) (ds := []) (s := 1 + n) (K := 1) (W n) hf.wf (may_ref3 n) (.other (by omega)) pages6 (by omega) (by rw [hk]; omega) hfree
    obtain ⟨f1, l1⟩ := t1.fine hf
    obtain ⟨ws', hws⟩ : ∃ ws', (fill0 (W n) a b).set a (putH 4 (1 + ((n % 3 : Nat) : Int)) 5 false) = ws' := ⟨_, rfl⟩
    have hat : At kd' ws' (a : Nat) a b 4 (1 + ((n % 3 : Nat) : Int)) 5 false := by rw [← hws]; exact MakeT.at hf.wf hf.len (may_ref3 n) r1 e1
    have hold : ∀ (p m : Nat) (k c l : Int) (f : Bool), At (K n) (W n) (p : Nat) p m k c l f → At kd' ws' (p : Nat) p m k c l f ∧ (p + m ≤ a ∨ a + b ≤ p) := fun p m k c l f h => by rw [← hws]; exact h.made hf.wf hf.len r1 e1
    obtain ⟨b', hb', h1, h2, h3, h4, h5, h6, h7⟩ := r1.spec hf.wf
    obtain rfl : b = b' := by rw [e1] at hb'; omega
    rw [hws] at t1 f1
    have hnew : ∀ (x : Int) (p m : Nat) (k c l : Int) (f : Bool), At kd' ws' x p m k c l f → x = (a : Int) ∨ At (K n) (W n) x p m k c l f := by
      rintro x p m k c l f ⟨q1, q2, q3⟩
      rw [h7 p] at q2
      split at q2
      · left; cases q2; exact q1
      · right
        refine ⟨q1, q2, ?_⟩
        rw [← hws, set_get_other _ _ _ _ (by omega), fill0_get _ _ _ _ (by have := hf.len; omega), if_neg (by assumption)] at q3
        exact q3
    have hW : ∀ i, i ≤ n → (if i ≤ n then W i else ws') = W i := fun i h => if_pos h
    have hK : ∀ i, i ≤ n → (if i ≤ n then K i else kd') = K i := fun i h => if_pos h
    have hA : ∀ i, i < n → (if i < n then A i else a) = A i := fun i h => if_pos h
    refine ⟨fun i => if i ≤ n then W i else ws', fun i => if i ≤ n then K i else kd', fun i => if i < n then A i else a, ?_, ?_, ?_, ?_, ?_, ?_, ?_⟩
    · exact hC.w0
    · exact hC.k0
    · intro i hi
      show MakeT (if i ≤ n then K i else kd') (if i ≤ n then W i else ws') [] 4 _ 5 false ((if i < n then A i else a : Nat) : Int) 0 (if i + 1 ≤ n then W (i + 1) else ws') (if i + 1 ≤ n then K (i + 1) else kd')
      rcases Nat.lt_or_ge i n with h | h
      · rw [hW i (by omega), hK i (by omega), hA i h, hW (i + 1) (by omega), hK (i + 1) (by omega)]
        exact hC.step i h
      · obtain rfl : i = n := by omega
        rw [hW i (by omega), hK i (by omega), if_neg (by omega), if_neg (by omega), if_neg (by omega)]
        exact t1
    · intro i hi
      show Fine (if i ≤ n then W i else ws') (if i ≤ n then K i else kd') [] ∧ (if i ≤ n then K i else kd').length = 40 ∧ FreeFrom (if i ≤ n then K i else kd') (1 + i)
      rcases Nat.lt_or_ge n i with h | h
      · obtain rfl : i = n + 1 := by omega
        rw [if_neg (by omega), if_neg (by omega)]
        exact ⟨f1, by rw [l1, hk], g1.mono (by omega)⟩
      · rw [hW i h, hK i h]
        exact hC.fine i h
    · intro i hi j hj
      show ∃ (m : Nat) (c : Int), At (if i ≤ n then K i else kd') (if i ≤ n then W i else ws') ((if j < n then A j else a : Nat) : Int) (if j < n then A j else a) m 4 c 5 false
      rcases Nat.lt_or_ge n i with h | h
      · obtain rfl : i = n + 1 := by omega
        rw [if_neg (by omega), if_neg (by omega)]
        rcases Nat.lt_or_ge j n with hjn | hjn
        · rw [hA j hjn]
          obtain ⟨m, c, hm⟩ := hC.refs n (Nat.le_refl _) j hjn
          exact ⟨m, c, (hold _ _ _ _ _ _ hm).1⟩
        · rw [if_neg (by omega)]
          exact ⟨b, _, hat⟩
      · rw [hW i h, hK i h, hA j (by omega)]
        exact hC.refs i h j hj
    · intro i hi x p m k c l f hx
      have hx' : At (if i ≤ n then K i else kd') (if i ≤ n then W i else ws') x p m k c l f := hx
      show ∃ j, j < i ∧ x = ((if j < n then A j else a : Nat) : Int)
      rcases Nat.lt_or_ge n i with h | h
      · obtain rfl : i = n + 1 := by omega
        rw [if_neg (by omega), if_neg (by omega)] at hx'
        rcases hnew _ _ _ _ _ _ _ hx' with e | e
        · exact ⟨n, by omega, by rw [if_neg (by omega)]; exact e⟩
        · obtain ⟨j, hj, e2⟩ := hC.only n (Nat.le_refl _) _ _ _ _ _ _ _ e
          exact ⟨j, by omega, by rw [hA j hj]; exact e2⟩
      · rw [hW i h, hK i h] at hx'
        obtain ⟨j, hj, e2⟩ := hC.only i h _ _ _ _ _ _ _ hx'
        exact ⟨j, hj, by rw [hA j (by omega)]; exact e2⟩
    · intro i j hi hj
      show (if i < n then A i else a) ≠ (if j < n then A j else a)
      rw [hA j (by omega)]
      rcases Nat.lt_or_ge i n with h | h
      · rw [hA i h]; exact hC.ne i j h hj
      · obtain rfl : i = n := by omega
        rw [if_neg (by omega)]
        obtain ⟨m, c, hm⟩ := hC.refs i (Nat.le_refl _) j hj
        have h8 := (hold _ _ _ _ _ _ hm).2
        have h9 := hm.facts hf.wf
        intro e
        rw [e] at h8
        omega
/-- The addresses. -/
def aL (A : Nat → Nat) (n : Nat) : List Int := (List.range n).map (fun i => (A i : Int))
theorem aL_length (A : Nat → Nat) (n : Nat) : (aL A n).length = n := by simp [aL]
theorem aL_get (A : Nat → Nat) (n i : Nat) (h : i < n) : (aL A n)[i]?.getD 0 = (A i : Int) := by simp [aL, h]
theorem aL_snoc (A : Nat → Nat) (n : Nat) : aL A (n + 1) = aL A n ++ [(A n : Int)] := by simp [aL, List.range_succ]
theorem Chain.bd {n : Nat} {W : Nat → List Int} {K : Nat → List PK} {A : Nat → Nat} (h : Chain n W K A) (j : Nat) (hj : j < n) : 64 ≤ A j ∧ A j ≤ 2560 := by
  obtain ⟨m, c, hm⟩ := h.refs n (Nat.le_refl _) j hj
  obtain ⟨hf, hk, _⟩ := h.fine n (Nat.le_refl _)
  have := hm.facts hf.wf
  omega
theorem Chain.aBd {n : Nat} {W : Nat → List Int} {K : Nat → List PK} {A : Nat → Nat} (h : Chain n W K A) (q : Nat) (hq : q ≤ n) : ∀ i : Nat, -9223372036854775808 ≤ (aL A q)[i]?.getD 0 ∧ (aL A q)[i]?.getD 0 ≤ 9223372036854775807 := by
  intro i
  by_cases hi : i < q
  · rw [aL_get A q i hi]; have := h.bd i (by omega); omega
  · rw [List.getElem?_eq_none (by rw [aL_length]; omega)]; simp

end Go.Proofs.YtjlbfojbgnhhbaaGreat
