/-
  Package class: what its calls answer and leave, over a table in memory.
-/
import Derived.Test.YtenggkgmbmboeaaRows
import Derived.Test.YtenggkgmbmboeaaOwn
import Derived.Test.YtenggkgmbmboeaaLists
import Derived.Test.YtenggkgmbmboeaaRet
import Derived.Deep.AppendLies
import Derived.Deep.RegionHeld3
import Derived.Deep.RegionLaw
namespace Go.Proofs.Ytenggkgmbmboeaa
open Go.RowKit

theorem Try.infoIntC : (Try.prog.info? 3).map (fun i => (i.zero, i.size, i.bytes)) = some (some (.int .i64 0), 1, 8) := by kernel_rfl
/-- Address i of a class of f fields is one, and lies behind the one ahead. -/
def okAt (f : Int) (L : List Int) (i : Nat) : Prop := 0 ≤ L[i]?.getD 0 ∧ L[i]?.getD 0 < f ∧ (0 < i → L[i - 1]?.getD 0 < L[i]?.getD 0)
instance (f : Int) (L : List Int) (i : Nat) : Decidable (okAt f L i) := by unfold okAt; infer_instance
/-- A class that may be. -/
def mayP (f : Int) (L : List Int) : Prop := 0 ≤ f ∧ f ≤ 1023 ∧ ∀ i, i < L.length → okAt f L i
instance (f : Int) (L : List Int) : Decidable (mayP f L) := by unfold mayP; infer_instance
def mayB (f : Int) (L : List Int) : Bool := decide (mayP f L)
theorem mayB_yes {f : Int} {L : List Int} (h1 : 0 ≤ f) (h2 : f ≤ 1023) (h : ∀ i, i < L.length → okAt f L i) : mayB f L = true := decide_eq_true ⟨h1, h2, h⟩
theorem mayB_low {f : Int} {L : List Int} (h1 : ¬ (0 ≤ f ∧ f ≤ 1023)) : mayB f L = false := decide_eq_false (fun h => h1 ⟨h.1, h.2.1⟩)
theorem mayB_no {f : Int} {L : List Int} (i : Nat) (hi : i < L.length) (h : ¬ okAt f L i) : mayB f L = false := decide_eq_false (fun k => h (k.2.2 i hi))
theorem mayB_iff {f : Int} {L : List Int} : mayB f L = true ↔ mayP f L := by unfold mayB; simp
/-- The address ahead of number j. -/
def lastI (L : List Int) (j : Nat) : Int := if j = 0 then -1 else L[j - 1]?.getD 0
theorem lastI_succ (L : List Int) (j : Nat) : lastI L (j + 1) = L[j]?.getD 0 := by simp [lastI]
theorem okAt_iff {f : Int} {L : List Int} {j : Nat} (hj : j < L.length) (h : ∀ i, i < j → okAt f L i) : okAt f L j ↔ lastI L j < L[j]?.getD 0 ∧ L[j]?.getD 0 < f := by
  unfold okAt lastI
  rcases Nat.eq_zero_or_pos j with rfl | hp
  · simp; omega
  · have := (h (j - 1) (by omega)).1
    rw [if_neg (by omega)]
    constructor
    · rintro ⟨a, b, c⟩; exact ⟨c hp, b⟩
    · rintro ⟨a, b⟩; exact ⟨by omega, b, fun _ => a⟩
theorem lastI_bd {w : World} {ao : Option Addr} {L : List Int} (h : IntsAt w ao L) (j : Nat) : -9223372036854775808 ≤ lastI L j ∧ lastI L j ≤ 9223372036854775807 := by
  unfold lastI
  split
  · omega
  · exact ⟨h.low _, h.high _⟩

/-- A slice of integers that a call hands back: what it holds, in memory that is new. -/
def GivesI (w w' : World) (v : Value) (L : List Int) : Prop := ∃ la lc, v = .slice la L.length lc ∧ IntsAt w' la L ∧ (la = none → lc = 0) ∧ ∀ a, la = some a → w.heap.size ≤ a.block ∧ a.block < w'.heap.size ∧ ∃ arr t, w'.heap[a.block]? = some (.cells arr t (0, 0))

/-- A row of one's own, as a slice. -/
theorem own_form {w : World} {base : Nat} {e : TypeId} {v : Value} {n : Nat} {L : List Int} (hown : w.ownsRow base e 1 v n (ints L)) (hbd : ∀ i : Nat, -9223372036854775808 ≤ L[i]?.getD 0 ∧ L[i]?.getD 0 ≤ 9223372036854775807) :
    ∃ la lc, v = .slice la n lc ∧ L.length = n ∧ IntsAt w la L ∧ (∀ a, la = some a → base ≤ a.block ∧ a.block < w.heap.size) ∧ (la = none → lc = 0) := by
  rcases own_ints hown hbd with ⟨rfl, rfl, rfl⟩ | ⟨gl, cap, rfl, h, hgl, hlt, hIL⟩
  · exact ⟨none, 0, rfl, rfl, IntsAt.nil _ _, fun a h => (by cases h), fun _ => rfl⟩
  · subst h; exact ⟨some ⟨gl, 0, none⟩, cap, rfl, rfl, hIL, fun a h => (by cases h; exact ⟨hgl, hlt⟩), fun h => (by cases h)⟩

/-- append onto nil, at a step of a region that draws: whatever is appended. -/
theorem step_append_nil {P : Program} {w : World} {ops : Array Oper} {o : Oper} {a : Act} {K : Act → World → Prop} {Q : Exit → Act → World → Prop} {E : Prop} (hgd : o.guard = none) (s x : Operand) (t : TypeId)
    (ho : o.op = .call { callee := .builtin .append, args := #[s, x], argTypes := #[t, t] })
    (e : TypeId) (i : TypeInfo) (ht : P.underlying t = some (.slice e)) (hi : P.info? e = some i ∧ i.zero = some (.int .i64 0) ∧ i.size = 1 ∧ i.bytes = 8)
    (L : List Int) (hs : a.eval s = .slice none 0 0) (xa : Option Addr) (m c : Nat) (hm : L.length = m)
    (hx : a.eval x = .slice xa m c) (hM : IntsAt w xa L) (hc : xa = none → c = 0) (hl : m ≤ 1000000)
    (h : ∀ la lc w', GivesI w w' (.slice la m lc) L → Keep [] w w' → K (a.put o.dst (.slice la m lc)) w') :
    if Region.wanted o (yielded ops a.tmps) = true then Oper.wp P o a w K Q else E := by
  have hw : Region.wanted o (yielded ops a.tmps) = true := by simp [Region.wanted, hgd]
  rw [if_pos hw]
  obtain ⟨h1, h2, h3, h4⟩ := hi
  subst hm
  cases xa with
  | none =>
    have h0 : L = [] := by
      rcases Nat.eq_zero_or_pos L.length with h0 | h0
      · exact List.length_eq_zero_iff.1 h0
      · obtain ⟨_, _, e, _⟩ := hM.cells h0; cases e
    subst h0
    obtain rfl := hc rfl
    have hrun := run_append_owned_none (P := P) (w := w) w.heap.size t o.type e i 1 ht h1 (.slice none 0 0) 0 [] (World.ownsRow_nil _ _ _ _)
    unfold Oper.wp
    simp at hx
    simp [execOp, ho, resolve, invoke, builtin, hs, hx, hrun, Result.andThen]
    exact h _ _ _ ⟨none, 0, rfl, IntsAt.nil _ _, fun _ => rfl, fun a e => by cases e⟩ (Keep.refl _ _)
  | some ad =>
    refine wp_append_own w s x t ho w.heap.size e i (.int .i64 0) 1 8 ht h1 h2 h3 h4 rfl (by decide) (.slice none 0 0) 0 [] hs (World.ownsRow_nil _ _ _ _) ad L.length c (ints L) hx (by rw [ints_length]; omega) ?_ (ints_one _) (by unfold maxLen; omega) (by omega) (Nat.le_refl _) ?_
    · intro j u hu
      have hj : j < L.length := by
        rcases Nat.lt_or_ge j L.length with hj | hj
        · exact hj
        · rw [List.getElem?_eq_none (by rw [ints_length]; exact hj)] at hu; cases hu
      obtain ⟨b, off, e1, _, hcell⟩ := hM.cells (by omega)
      cases e1
      rw [ints_get L j hj] at hu
      rw [Go.WideShapes.add_plain, hcell j hj]; exact hu
    · intro v' w' hown' hg _
      rw [List.nil_append] at hown'
      have hk := (Keep.refl [] w).grown hg (fun k e => by simp [Value.ownBlock] at e)
      have hfz : ∀ g, v'.ownBlock = some g → ∃ arr t, w'.heap[g]? = some (.cells arr t (0, 0)) := by
        intro g e
        rcases hown'.2 with ⟨e1, _⟩ | ⟨g', cap, cur, e1, _, e3, _⟩
        · subst e1; simp [Value.ownBlock] at e
        · subst e1; simp [Value.ownBlock] at e; subst e; exact ⟨_, _, e3⟩
      rcases own_ints hown' (fun i => ⟨hM.low i, hM.high i⟩) with ⟨e1, e2, _⟩ | ⟨g, cap, e1, _, h5, h6, h7⟩
      · subst e1 e2; exact h none 0 w' ⟨none, 0, rfl, IntsAt.nil _ _, fun _ => rfl, fun a e => by cases e⟩ hk
      · subst e1; exact h (some ⟨g, 0, none⟩) cap w' ⟨some ⟨g, 0, none⟩, cap, rfl, h7, (fun e => by cases e), (fun a e => by cases e; exact ⟨h5, h6, hfz g rfl⟩)⟩ hk

theorem GivesI.later {S : List Nat} {w0 w1 w2 w3 : World} {v : Value} {L : List Int} (h : GivesI w1 w2 v L) (K : Keep S w2 w3) (hS : ∀ k, k ∈ S → k < w1.heap.size) (h0 : w0.heap.size ≤ w1.heap.size) : GivesI w0 w3 v L := by
  obtain ⟨la, lc, rfl, h1, h2, h3⟩ := h
  exact ⟨la, lc, rfl, h1.keep K (fun _ a e k => by have := hS _ k; have := (h3 a e).1; omega), h2, fun a e => ⟨by have := (h3 a e).1; omega, Nat.lt_of_lt_of_le (h3 a e).2.1 K.size, by
    obtain ⟨arr, t, hb⟩ := (h3 a e).2.2
    exact ⟨arr, t, K.blk hb (fun k => by have := hS _ k; have := (h3 a e).1; omega)⟩⟩⟩

/-- A class in memory. -/
structure CV where
  f : Int
  ao : Option Addr
  cp : Nat
  L : List Int
def CV.cells (c : CV) : List Value := [.int .i64 c.f, .slice c.ao c.L.length c.cp]
def flat (cs : List CV) : List Value := cs.flatMap CV.cells
theorem flat_length (cs : List CV) : (flat cs).length = cs.length * 2 := by
  induction cs with
  | nil => rfl
  | cons c cs ih => simp [flat, CV.cells] at *; omega
theorem flat_app (cs ds : List CV) : flat (cs ++ ds) = flat cs ++ flat ds := by simp [flat]
theorem flat_one (c : CV) : flat [c] = c.cells := by simp [flat]
theorem flat_get0 (cs : List CV) (i : Nat) (c : CV) (h : cs[i]? = some c) : (flat cs)[i * 2]? = some (.int .i64 c.f) ∧ (flat cs)[i * 2 + 1]? = some (.slice c.ao c.L.length c.cp) := by
  induction cs generalizing i with
  | nil => simp at h
  | cons d cs ih =>
    cases i with
    | zero => simp at h; subst h; simp [flat, CV.cells]
    | succ i =>
      simp at h
      have := ih i h
      have e : flat (d :: cs) = .int .i64 d.f :: .slice d.ao d.L.length d.cp :: flat cs := by simp [flat, CV.cells]
      rw [e, show (i + 1) * 2 = i * 2 + 1 + 1 by omega, show i * 2 + 1 + 1 + 1 = (i * 2 + 1) + 1 + 1 by omega]
      simpa using this
/-- What a class is, wherever it lies. -/
def CV.d (c : CV) : Int × List Int := (c.f, c.L)

/-! ### The calls -/
end Go.Proofs.Ytenggkgmbmboeaa
