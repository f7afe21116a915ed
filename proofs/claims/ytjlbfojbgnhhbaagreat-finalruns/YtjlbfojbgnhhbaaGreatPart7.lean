/-
  Contracts of what the statement calls, one text behind the other (Awake9, RHeapAdd, Twin, ListA, OwnA, PRow, Mid, Rows2, QueueT, QueueAt).
-/
import Derived.Test.YtjlbfojbgnhhbaaGreatPart6
import Derived.Test.YtjlbfojbgnhhbaaGreatPart2
import Derived.Deep.AppendLies
import Derived.Test.YtjlbfojbgnhhbaaGreatPart1
import Derived.ArgAppend
import Derived.Deep.OwnRows
import Derived.Test.YtjlbfojbgnhhbaaGreatRows
import Derived.Test.YtjlbfojbgnhhbaaGreatPart3
import Derived.Test.YtjlbfojbgnhhbaaGreatPart5

/-
  Whole and awake of gloaminglaw9.
-/
namespace Go.Proofs.YtjlbfojbgnhhbaaGreat
open Go.RowKit

section
variable {w0 : World} {F0 : List Nat} {hb : Nat} {ws : List Int} {kd : List PK} {ds : List (Int × List Int)}
set_option maxRecDepth 100000 in
set_option maxHeartbeats 1600000 in
theorem owhole (w : World) (h : Has w0 F0 (heapA hb ws kd ds) w) :
    Calls Tryz.prog 22 #[.pointer (some ⟨hb, 0, none⟩)] w fun e w' => e = .returned (.bool true) ∧ w = w' := by
  obtain ⟨sb, tb, hr⟩ := h.raw
  obtain ⟨c0, c1, ⟨ab, ag, c2, _⟩, ⟨pb, c3⟩, _⟩ := hr.cells
  clear h hr
  go_enter Tryz.func22, Tryz.ntmps22
  go_wp2_with fail
  go_ret
  exact ⟨rfl, rfl⟩
end

theorem Fine.add {ws : List Int} {kd : List PK} {ds : List (Int × List Int)} (h : Fine ws kd ds) (f : Int) (L : List Int) : Fine ws kd (addR ds f L) := by
  unfold addR
  split
  · rename_i e
    simp at e
    exact ⟨h.wf, h.ob.add _, by simp; omega, h.len⟩
  · exact h

section
variable {w0 : World} {F0 : List Nat} {hb : Nat} {ws : List Int} {kd : List PK} {ds : List (Int × List Int)}
theorem Has.ptrs {w : World} (h : Has w0 F0 (heapA hb ws kd ds) w) : ∃ sb tb, w.cell? ⟨hb, 0, none⟩ = some (.pointer (some ⟨sb, 0, none⟩)) ∧ w.cell? ⟨hb, 1, none⟩ = some (.pointer (some ⟨tb, 0, none⟩)) := by
  obtain ⟨sb, tb, hr⟩ := h.raw
  exact ⟨sb, tb, hr.cells.1, hr.cells.2.1⟩
theorem ptr_eq {a b : Nat} (e : some (Value.pointer (some ⟨a, 0, none⟩)) = some (.pointer (some ⟨b, 0, none⟩))) : a = b := by
  injection e with e; injection e with e; injection e with e; injection e
theorem ofind (sb : Nat) (a : Int) (w : World) (h : Has w0 F0 (heapA hb ws kd ds) w) (ht : w.cell? ⟨hb, 0, none⟩ = some (.pointer (some ⟨sb, 0, none⟩))) :
    Calls Tryz.prog 77 #[.pointer (some ⟨sb, 0, none⟩), .int .i64 a] w fun e w' => e = .returned (foundV (findI kd a)) ∧ Keep [] w w' := by
  obtain ⟨sb', tb, hr⟩ := h.raw
  have e := hr.cells.1
  rw [ht] at e
  obtain rfl := ptr_eq e
  exact xfind w a hr h.fine.wf
end

theorem awake_each : (eachK ((freshK 2).set 1 (.small 0 ((offs (roomOf 0)).set 0 true)))).length = 1 := by decide +kernel
theorem block2 : blockI 2 = (2 : Nat) := by decide
end Go.Proofs.YtjlbfojbgnhhbaaGreat

/-
  The document's own heap: Add.
-/
namespace Go.Proofs.YtjlbfojbgnhhbaaGreat
open Go.RowKit

/-- append onto a row of one's own that is empty, at a step of a region that draws: whatever is appended. -/
theorem step_append_own0 {P : Program} {w : World} {ops : Array Oper} {o : Oper} {a : Act} {K : Act → World → Prop} {Q : Exit → Act → World → Prop} {E : Prop} (hgd : o.guard = none) (s x : Operand) (t : TypeId)
    (ho : o.op = .call { callee := .builtin .append, args := #[s, x], argTypes := #[t, t] })
    (base : Nat) (e : TypeId) (i : TypeInfo) (ht : P.underlying t = some (.slice e)) (hi : P.info? e = some i ∧ i.zero = some (.int .i64 0) ∧ i.size = 1 ∧ i.bytes = 8)
    (L : List Int) (g : Nat) (hs : a.eval s = .slice (some ⟨g, 0, none⟩) 0 0) (hown : w.ownsRow base e 1 (.slice (some ⟨g, 0, none⟩) 0 0) 0 (ints [])) (hbase : base ≤ w.heap.size) (xa : Option Addr) (m c : Nat) (hm : L.length = m)
    (hx : a.eval x = .slice xa m c) (hM : IntsAt w xa L) (hc : xa = none → c = 0) (hl : m ≤ 1000000)
    (h : ∀ la lc w', IntsAt w' la L → (la = none → lc = 0) → (∀ a, la = some a → base ≤ a.block ∧ a.block < w'.heap.size) → w.grownBy w' (some g) → K (a.put o.dst (.slice la m lc)) w') :
    if Region.wanted o (yielded ops a.tmps) = true then Oper.wp P o a w K Q else E := by
  have hw : Region.wanted o (yielded ops a.tmps) = true := by simp [Region.wanted, hgd]
  rw [if_pos hw]
  obtain ⟨h1, h2, h3, h4⟩ := hi
  subst hm
  cases xa with
  | none =>
    have h0 : L = [] := by
      rcases Nat.eq_zero_or_pos L.length with h0 | h0
      · exact List.length_eq_zero_iff.1 h0
      · obtain ⟨_, _, e, _⟩ := hM.cells h0; cases e
    subst h0
    obtain rfl := hc rfl
    have hrun := run_append_owned_none (P := P) (w := w) base t o.type e i 1 ht h1 (.slice (some ⟨g, 0, none⟩) 0 0) 0 _ hown
    unfold Oper.wp
    simp at hx
    simp [execOp, ho, resolve, invoke, builtin, hs, hx, hrun, Result.andThen]
    refine h _ _ _ (IntsAt.nil _ _) (by simp) (fun a e => ?_) (grown_refl _ _)
    cases e
    rcases own_ints hown (by simp) with ⟨e, _⟩ | ⟨g', cap, e1, _, e2, e3, _⟩
    · cases e
    · cases e1; exact ⟨e2, e3⟩
  | some ad =>
    refine wp_append_own w s x t ho base e i (.int .i64 0) 1 8 ht h1 h2 h3 h4 rfl (by decide) _ 0 _ hs hown ad L.length c (ints L) hx (by rw [ints_length]; omega) ?_ (ints_one _) (by unfold maxLen; omega) (by omega) hbase ?_
    · intro j u hu
      have hj : j < L.length := by
        rcases Nat.lt_or_ge j L.length with hj | hj
        · exact hj
        · rw [List.getElem?_eq_none (by rw [ints_length]; exact hj)] at hu; cases hu
      obtain ⟨b, off, e1, _, hcell⟩ := hM.cells (by omega)
      cases e1
      rw [ints_get L j hj] at hu
      rw [Go.WideShapes.add_plain, hcell j hj]; exact hu
    · intro v' w' hown' hg _
      rw [show ints ([] : List Int) = [] from rfl, List.nil_append, Nat.zero_add] at hown'
      obtain ⟨la, lc, rfl, _, hI, hb, hn⟩ := own_form hown' (fun i => ⟨hM.low i, hM.high i⟩)
      exact h la lc w' hI hn hb hg

theorem RTabAt.far4 {F : List Nat} {w w4 : World} {tb mb vc : Nat} {va : Option Addr} {cs : List CV} {o : Obj} (h : RTabAt w tb mb va vc F cs) (hg : (w.alloc o).grownBy w4 (Value.slice va cs.length vc).ownBlock) :
    w4.cell? ⟨tb, 1, none⟩ = some (.slice va cs.length vc) ∧ w4.frozen? ⟨tb, 1, none⟩ = false := by
  have htb := h.lt _ h.tF
  have e : w4.heap[tb]? = some (.cells #[.pointer (some ⟨mb, 0, none⟩), .slice va cs.length vc] 63 (0, 0)) := by
    rw [← h.head]
    refine (hg.block tb (by simp; omega) (fun e => ?_)).trans (Below.heap_alloc _ _ _ htb)
    cases va with
    | none => simp [Value.ownBlock] at e
    | some a => simp [Value.ownBlock] at e; exact (h.vF a rfl).2 e.symm
  exact ⟨by simp [World.cell?, e], by simp [World.frozen?, e]⟩

section
variable {w0 : World} {F0 : List Nat} {hb mb : Nat} {ws : List Int} {kd : List PK} {ds : List (Int × List Int)}
end

end Go.Proofs.YtjlbfojbgnhhbaaGreat

/-
  Two lists of integers that a call grows by turns, each in memory of its own.
-/
namespace Go.Proofs.YtjlbfojbgnhhbaaGreat
open Go.RowKit

theorem snoc_old (L : List Int) (x : Int) (t : Nat) (h : t < L.length) : (L ++ [x])[t]?.getD 0 = L[t]?.getD 0 := by rw [List.getElem?_append_left h]
theorem snoc_new (L : List Int) (x : Int) (t : Nat) (h : t = L.length) : (L ++ [x])[t]?.getD 0 = x := by subst h; simp
theorem own_keep {S : List Nat} {w w' : World} {base : Nat} {e : TypeId} {size : Nat} {v : Value} {n : Nat} {xs : List Value} (h : w.ownsRow base e size v n xs) (k : Keep S w w') (hS : ∀ x, x ∈ S → x < base) : w'.ownsRow base e size v n xs := by
  refine ⟨h.1, ?_⟩
  rcases h.2 with h | ⟨g, cap, cur, h1, h2, h3, h4⟩
  · exact .inl h
  · exact .inr ⟨g, cap, cur, h1, h2, k.blk h3 (fun e => by have := hS g e; omega), h4⟩
/-- Two slices lie in two blocks. -/
def Apart (la ls : Option Addr) : Prop := ∀ x y, la = some x → ls = some y → x.block ≠ y.block
theorem Apart.kept {la ls : Option Addr} (h : Apart la ls) (q c q' c' : Nat) : (Value.slice ls q c).ownBlock = none ∨ (Value.slice ls q c).ownBlock ≠ (Value.slice la q' c').ownBlock := by
  cases ls with
  | none => exact .inl rfl
  | some y =>
    cases la with
    | none => exact .inr (by simp [Value.ownBlock])
    | some x => exact .inr (by have := h x y rfl rfl; simp [Value.ownBlock]; omega)
theorem Apart.symm {la ls : Option Addr} (h : Apart la ls) : Apart ls la := fun x y hx hy e => h y x hy hx e.symm
theorem Apart.grown {la ls : Option Addr} {g q c H : Nat} (h : Apart la ls) (hg : (Value.slice la q c).ownBlock = some g ∨ g = H) (hl : ∀ y, ls = some y → y.block < H) : Apart (some ⟨g, 0, none⟩) ls := by
  intro x y hx hy e
  cases hx
  simp only at e
  rcases hg with hg | hg
  · cases la with
    | none => simp [Value.ownBlock] at hg
    | some z => simp [Value.ownBlock] at hg; exact h z y rfl hy (by omega)
  · have := hl y hy; omega
theorem own_at {w : World} {base : Nat} {e : TypeId} {la : Option Addr} {q c : Nat} {L : List Int} (h : w.ownsRow base e 1 (.slice la q c) q (ints L)) (hb : ∀ i : Nat, -9223372036854775808 ≤ L[i]?.getD 0 ∧ L[i]?.getD 0 ≤ 9223372036854775807) :
    IntsAt w la L ∧ L.length = q ∧ (∀ y, la = some y → base ≤ y.block ∧ y.block < w.heap.size) := by
  have hn : L.length = q := by have := h.1; rw [ints_length, Nat.mul_one] at this; exact this
  rcases own_ints h hb with ⟨h1, h2, _⟩ | ⟨g, cap, h1, _, h3, h4, h5⟩
  · cases h1; subst h2; exact ⟨IntsAt.nil _ _, hn, fun y hy => by cases hy⟩
  · cases h1; exact ⟨h5, hn, fun y hy => by cases hy; exact ⟨h3, h4⟩⟩
theorem grown_keep {w w' : World} {la : Option Addr} {q c : Nat} (hg : w.grownBy w' (Value.slice la q c).ownBlock) : Keep (la.toList.map (·.block)) w w' := by
  refine ⟨hg.os, hg.tape, hg.output, hg.size, fun k hk hS => hg.block k hk (fun e => hS ?_)⟩
  cases la with
  | none => simp [Value.ownBlock] at e
  | some x => simp [Value.ownBlock] at e; simp [e]
theorem blocks_ge {la : Option Addr} {base m : Nat} (h : ∀ y, la = some y → base ≤ y.block ∧ y.block < m) : ∀ x, x ∈ la.toList.map (·.block) → base ≤ x := by
  intro x hx
  cases la with
  | none => simp at hx
  | some y => simp at hx; subst hx; exact (h y rfl).1

theorem own_keepS {S : List Nat} {w w' : World} {base : Nat} {e : TypeId} {size : Nat} {la : Option Addr} {q c n : Nat} {xs : List Value} (h : w.ownsRow base e size (.slice la q c) n xs) (k : Keep S w w') (hS : ∀ y, la = some y → y.block ∉ S) : w'.ownsRow base e size (.slice la q c) n xs := by
  refine ⟨h.1, ?_⟩
  rcases h.2 with h | ⟨g, cap, cur, h1, h2, h3, h4⟩
  · exact .inl h
  · refine .inr ⟨g, cap, cur, h1, h2, k.blk h3 ?_, h4⟩
    cases h1
    exact hS _ rfl

end Go.Proofs.YtjlbfojbgnhhbaaGreat

/-
  A list of integers that nothing turns, as a part of memory beside others.
-/
namespace Go.Proofs.YtjlbfojbgnhhbaaGreat
open Go.RowKit

def listA (la : Option Addr) (L : List Int) : Asn where
  at' w F := F = la.toList.map (·.block) ∧ IntsAt w la L ∧ ∀ a, la = some a → a.block < w.heap.size
  keep := fun h K hS => ⟨h.1, h.2.1.keep K (fun _ a e => hS _ (by rw [h.1, e]; simp)), fun a e => Nat.lt_of_lt_of_le (h.2.2 a e) K.size⟩
  lt := fun h k hk => by
    rw [h.1] at hk
    simp at hk
    obtain ⟨a, e, rfl⟩ := hk
    exact h.2.2 a e
theorem Has.list {w0 w : World} {F0 : List Nat} {la : Option Addr} {L : List Int} (h : Has w0 F0 (listA la L) w) : IntsAt w la L := h.fact (fun _ h => h.2.1)
/-- A list that was made since w beside what there is. -/
theorem Has.listed {w0 w w' : World} {F0 : List Nat} {A : Asn} {v : Value} {n : Nat} {L : List Int} {t : TypeId} (h : Has w0 F0 A w) (K : Keep [] w w') (ho : w'.ownsRow w.heap.size t 1 v n (ints L)) (hb : ∀ i : Nat, -9223372036854775808 ≤ L[i]?.getD 0 ∧ L[i]?.getD 0 ≤ 9223372036854775807) :
    ∃ la lc, v = .slice la L.length lc ∧ (la = none → lc = 0) ∧ Has w0 F0 (A.star (listA la L)) w' := by
  rcases own_ints ho hb with ⟨rfl, rfl, _⟩ | ⟨g, cap, rfl, _, h2, h3, h4⟩
  · exact ⟨none, 0, rfl, fun _ => rfl, h.more K (G := []) ⟨rfl, IntsAt.nil _ _, by simp⟩ (by simp)⟩
  · exact ⟨some ⟨g, 0, none⟩, cap, rfl, by simp, h.more K (G := [g]) ⟨rfl, h4, fun a e => by cases e; exact h3⟩ (by simpa using h2)⟩

end Go.Proofs.YtjlbfojbgnhhbaaGreat

/-
  A list of integers that grows, as a part of memory beside others.
-/
namespace Go.Proofs.YtjlbfojbgnhhbaaGreat
open Go.RowKit

def ownA (t : TypeId) (la : Option Addr) (q c : Nat) (L : List Int) : Asn where
  at' w F := F = la.toList.map (·.block) ∧ w.ownsRow 0 t 1 (.slice la q c) q (ints L) ∧ ∀ a, la = some a → a.block < w.heap.size
  keep := fun h K hS => ⟨h.1, own_keepS h.2.1 K (fun y e => hS _ (by rw [h.1, e]; simp)), fun a e => Nat.lt_of_lt_of_le (h.2.2 a e) K.size⟩
  lt := fun h k hk => by
    rw [h.1] at hk
    simp at hk
    obtain ⟨a, e, rfl⟩ := hk
    exact h.2.2 a e
theorem Has.own {w0 w : World} {F0 : List Nat} {t : TypeId} {la : Option Addr} {q c : Nat} {L : List Int} (h : Has w0 F0 (ownA t la q c L) w) : w.ownsRow 0 t 1 (.slice la q c) q (ints L) := h.fact (fun _ h => h.2.1)
theorem Has.ownNew {w0 w : World} {F0 : List Nat} {A : Asn} (t : TypeId) (h : Has w0 F0 A w) : Has w0 F0 (A.star (ownA t none 0 0 [])) w :=
  h.more (Keep.refl _ _) (G := []) ⟨rfl, World.ownsRow_nil _ _ _ _, by simp⟩ (by simp)
theorem Has.ownMore {w0 w w' : World} {F0 : List Nat} {A : Asn} {t : TypeId} {la : Option Addr} {q c q' c' g H : Nat} {L L' : List Int} (h : Has w0 F0 (A.star (ownA t la q c L)) w) (ho : w'.ownsRow 0 t 1 (.slice (some ⟨g, 0, none⟩) q' c') q' (ints L')) (hg : w.grownBy w' (Value.slice la q c).ownBlock)
    (hb : (Value.slice la q c).ownBlock = some g ∨ g = H) (hH : w.heap.size = H) (hlt : g < w'.heap.size) : Has w0 F0 (A.star (ownA t (some ⟨g, 0, none⟩) q' c' L')) w' := by
  refine (Has.left h.comm (A' := ownA t (some ⟨g, 0, none⟩) q' c' L') (fun F hF => ⟨[g], ⟨rfl, ho, fun a e => by cases e; exact hlt⟩, ?_, fun k hk => ?_⟩)).comm
  · rw [hF.1]; exact grown_keep hg
  · simp at hk
    subst hk
    rcases hb with hb | hb
    · left
      rw [hF.1]
      cases la with
      | none => simp [Value.ownBlock] at hb
      | some z => simp [Value.ownBlock] at hb; simp [hb]
    · right; omega

end Go.Proofs.YtjlbfojbgnhhbaaGreat

/-
  A row of one's own that append made: its first cells, and the same when one of them is set. It speaks of no program.
-/
namespace Go.Proofs.YtjlbfojbgnhhbaaGreat
open Go.RowKit

/-- Block g begins with these integers. -/
def PRow (w : World) (t : TypeId) (g : Nat) (L : List Int) : Prop := ∃ cur : Array Value, w.heap[g]? = some (.cells cur t (0, 0)) ∧ ∀ i : Nat, i < L.length → cur[i]? = some (.int .i64 (L[i]?.getD 0))
theorem PRow.lt {w : World} {t : TypeId} {g : Nat} {L : List Int} (h : PRow w t g L) : g < w.heap.size := by obtain ⟨cur, h, _⟩ := h; exact lt_of_block h
theorem PRow.keep {S : List Nat} {w w' : World} {t : TypeId} {g : Nat} {L : List Int} (h : PRow w t g L) (k : Keep S w w') (hS : g ∉ S) : PRow w' t g L := by obtain ⟨cur, h1, h2⟩ := h; exact ⟨cur, k.blk h1 hS, h2⟩
theorem PRow.cell {w : World} {t : TypeId} {g : Nat} {L : List Int} (h : PRow w t g L) {i : Nat} (hi : i < L.length) : w.cell? ⟨g, i, none⟩ = some (.int .i64 (L[i]?.getD 0)) := by
  obtain ⟨cur, h1, h2⟩ := h
  simp [World.cell?, h1, h2 i hi]
theorem PRow.free {w : World} {t : TypeId} {g : Nat} {L : List Int} (h : PRow w t g L) (i : Nat) : w.frozen? ⟨g, i, none⟩ = false := by
  obtain ⟨cur, h1, _⟩ := h
  simp [World.frozen?, h1]
theorem PRow.put {w : World} {t : TypeId} {g : Nat} {L : List Int} (h : PRow w t g L) (i : Nat) (x : Int) : PRow (w.setCell ⟨g, i, none⟩ (.int .i64 x)) t g (L.set i x) := by
  obtain ⟨cur, h1, h2⟩ := h
  refine ⟨_, heap_setCell_same w g i cur t (.int .i64 x) h1, fun j hj => ?_⟩
  rw [List.length_set] at hj
  have h3 := h2 j hj
  have hc : j < cur.size := by
    rcases Nat.lt_or_ge j cur.size with e | e
    · exact e
    · rw [Array.getElem?_eq_none e] at h3; cases h3
  by_cases e : i = j
  · subst e; rw [set_get_same _ _ _ hj, Array.getElem?_setIfInBounds_self_of_lt hc]
  · rw [set_get_other _ _ _ _ e, Array.getElem?_setIfInBounds_ne e]; exact h3
theorem own_prow {w : World} {base : Nat} {e : TypeId} {v : Value} {n : Nat} {L : List Int} (h : w.ownsRow base e 1 v n (ints L)) (h0 : 0 < n) :
    ∃ g cap, v = .slice (some ⟨g, 0, none⟩) n cap ∧ L.length = n ∧ base ≤ g ∧ PRow w e g L := by
  have hn : n = L.length := by have := h.1; rw [ints_length, Nat.mul_one] at this; exact this.symm
  rcases h.2 with ⟨_, h1⟩ | ⟨g, cap, cur, h1, hb, hg, hc1, _, hsz, hcur⟩
  · omega
  · refine ⟨g, cap, h1, hn.symm, hb, cur, hg, fun i hi => ?_⟩
    rw [Nat.mul_one] at hcur
    have h3 : cur.toList[i]? = some (.int .i64 (L[i]?.getD 0)) := by
      have h2 := ints_get L i hi
      rw [← hcur, List.getElem?_take, if_pos (by omega)] at h2
      exact h2
    simpa using h3
/-- What an append turns. -/
theorem Keep.ofGrown {w w' : World} {row : Option Nat} (h : w.grownBy w' row) : Keep row.toList w w' :=
  ⟨h.os, h.tape, h.output, h.size, fun k hk hS => h.block k hk (fun e => hS (by rw [← e]; simp))⟩
theorem Keep.grownS {S : List Nat} {w1 w w' : World} {row : Option Nat} (h : Keep S w1 w) (hg : w.grownBy w' row) (hrow : ∀ k, row = some k → w1.heap.size ≤ k) : Keep S w1 w' :=
  ⟨hg.os.trans h.os, hg.tape.trans h.tape, hg.output.trans h.output, Nat.le_trans h.size hg.size, fun k hk hS =>
    (hg.block k (Nat.lt_of_lt_of_le hk h.size) (fun e => by have := hrow k e.symm; omega)).trans (h.block k hk hS)⟩

end Go.Proofs.YtjlbfojbgnhhbaaGreat

/-
  A list of integers that begins at some place of a row of one's own, and has room behind it; what append leaves of it; parts of memory in a row. It speaks of no program.
-/
namespace Go.Proofs.YtjlbfojbgnhhbaaGreat
open Go.RowKit

/-- v is a list that is one's own: it holds L, and what lies behind it up to its capacity is free. -/
def IsMid (w : World) (t : TypeId) (v : Value) (L : List Int) : Prop :=
  (v = .slice none 0 0 ∧ L = []) ∨ ∃ g o cap cur, v = .slice (some ⟨g, o, none⟩) L.length cap ∧ w.heap[g]? = some (.cells cur t (0, 0)) ∧ L.length ≤ cap ∧ cap ≤ maxLen ∧ o + cap ≤ cur.size ∧ ∀ i, i < L.length → cur[o + i]? = some (.int .i64 (L[i]?.getD 0))
def inR (L : List Int) : Prop := ∀ i : Nat, -9223372036854775808 ≤ L[i]?.getD 0 ∧ L[i]?.getD 0 ≤ 9223372036854775807

theorem IsMid.keep {S : List Nat} {w w' : World} {t : TypeId} {v : Value} {L : List Int} (h : IsMid w t v L) (K : Keep S w w') (hS : ∀ k, v.ownBlock = some k → k ∉ S) : IsMid w' t v L := by
  rcases h with h | ⟨g, o, cap, cur, h1, h2, h3⟩
  · exact .inl h
  · subst h1; exact .inr ⟨g, o, cap, cur, rfl, K.blk h2 (hS g rfl), h3⟩
theorem IsMid.lt {w : World} {t : TypeId} {v : Value} {L : List Int} (h : IsMid w t v L) : ∀ k, v.ownBlock = some k → k < w.heap.size := by
  intro k hk
  rcases h with ⟨h, _⟩ | ⟨g, o, cap, cur, h1, h2, _⟩
  · subst h; cases hk
  · subst h1; cases hk; exact lt_of_block h2
theorem IsMid.ints {w : World} {t : TypeId} {la : Option Addr} {n c : Nat} {L : List Int} (h : IsMid w t (.slice la n c) L) (hb : inR L) : IntsAt w la L ∧ L.length = n ∧ (la = none → c = 0) ∧ n ≤ c := by
  rcases h with ⟨h, rfl⟩ | ⟨g, o, cap, cur, h1, h2, h3, h4, h5, h6⟩
  · cases h; exact ⟨IntsAt.nil _ _, rfl, fun _ => rfl, Nat.le_refl _⟩
  · cases h1
    refine ⟨⟨fun _ => ⟨g, o, rfl, lt_of_block h2, fun i hi => ?_⟩, fun i => (hb i).1, fun i => (hb i).2⟩, rfl, (fun e => by cases e), h3⟩
    simp [World.cell?, h2, h6 i hi]
theorem IsMid.form {w : World} {t : TypeId} {v : Value} {L : List Int} (h : IsMid w t v L) : ∃ la c, v = .slice la L.length c := by
  rcases h with ⟨rfl, rfl⟩ | ⟨g, o, cap, cur, h1, _⟩
  · exact ⟨none, 0, rfl⟩
  · exact ⟨_, _, h1⟩
theorem IsMid.nil (w : World) (t : TypeId) : IsMid w t (.slice none 0 0) [] := .inl ⟨rfl, rfl⟩
/-- A row that append made. -/
theorem own_mid {w : World} {base : Nat} {t : TypeId} {v : Value} {n : Nat} {L : List Int} (h : w.ownsRow base t 1 v n (ints L)) : IsMid w t v L := by
  have hn : n = L.length := by have := h.1; rw [ints_length, Nat.mul_one] at this; exact this.symm
  rcases h.2 with ⟨h1, h2⟩ | ⟨g, cap, cur, h1, _, h3, h4, h5, h6, h7⟩
  · exact .inl ⟨h1, List.length_eq_zero_iff.1 (by omega)⟩
  · refine .inr ⟨g, 0, cap, cur, by rw [h1, hn], h3, by omega, h5, by omega, fun i hi => ?_⟩
    have e := ints_get L i hi
    rw [← h7, List.getElem?_take, if_pos (by omega)] at e
    rw [Nat.zero_add]
    simpa using e
/-- The first one goes. -/
theorem IsMid.tail {w : World} {t : TypeId} {g o cap : Nat} {x : Int} {L : List Int} (h : IsMid w t (.slice (some ⟨g, o, none⟩) (L.length + 1) cap) (x :: L)) :
    IsMid w t (.slice (if cap = 1 then some ⟨g, o, none⟩ else some ⟨g, o + 1, none⟩) L.length (cap - 1)) L := by
  rcases h with ⟨h, _⟩ | ⟨g', o', cap', cur, h1, h2, h3, h4, h5, h6⟩
  · cases h
  · cases h1
    rw [List.length_cons] at h3 h6
    by_cases e : cap = 1
    · rw [if_pos e]
      exact .inr ⟨g, o, cap - 1, cur, rfl, h2, by omega, by omega, by omega, fun i hi => by omega⟩
    · rw [if_neg e]
      refine .inr ⟨g, o + 1, cap - 1, cur, rfl, h2, by omega, by omega, by omega, fun i hi => ?_⟩
      have := h6 (i + 1) (by omega)
      rw [show o + 1 + i = o + (i + 1) by omega, this]; simp

theorem lt_of_cell2' {w : World} {b o : Nat} {v : Value} (h : w.cell? ⟨b, o, none⟩ = some v) : b < w.heap.size := by
  rcases Nat.lt_or_ge b w.heap.size with h' | h'
  · exact h'
  · simp [World.cell?, Array.getElem?_eq_none h'] at h
theorem snoc_get (L : List Int) (y : Int) (i : Nat) (h : i < L.length) : (L ++ [y])[i]?.getD 0 = L[i]?.getD 0 := by rw [List.getElem?_append_left h]
/-- What append of one integer comes to. -/
theorem run_append_mid {P : Program} (w : World) (t ty e : TypeId) (i : TypeInfo) (ht : P.underlying t = some (.slice e)) (hi : P.info? e = some i ∧ i.zero = some (.int .i64 0) ∧ i.size = 1 ∧ i.bytes = 8)
    (v : Value) (L : List Int) (hv : IsMid w e v L) (ad : Addr) (y : Int) (c : Nat) (hy : w.cell? ad = some (.int .i64 y)) (ha : ad.add 0 = ad) (hl : L.length ≤ 1000000) :
    ∃ v' w', (Builtin.append_ #[t, t] ty #[v, .slice (some ad) 1 c]).run P w = .ok v' w' ∧ IsMid w' e v' (L ++ [y]) ∧ Keep v.ownBlock.toList w w' ∧ ∀ k, v'.ownBlock = some k → v.ownBlock = some k ∨ w.heap.size ≤ k := by
  obtain ⟨h1, h2, h3, h4⟩ := hi
  have hnews : ∀ j u, (ints [y])[j]? = some u → w.cell? (ad.add j) = some u := by
    intro j u hu
    rcases j with _ | j
    · rw [ha, hy]; simpa [ints] using hu
    · simp [ints] at hu
  rcases hv with ⟨rfl, rfl⟩ | ⟨g, o, cap, cur, rfl, hg, hlc, hcm, hsz, hcur⟩
  · obtain ⟨v', w', hrun, hown, hgr, _⟩ := run_append_own (P := P) w w.heap.size t ty e i (.int .i64 0) 1 8 ht h1 h2 h3 h4 rfl (by decide) (.slice none 0 0) 0 [] (World.ownsRow_nil w _ e 1) ad 1 c (ints [y]) (by simp [ints]) hnews (ints_one _) (by unfold maxLen; omega) (by omega) (Nat.le_refl _)
    rw [show ([] : List Value) ++ ints [y] = ints ([] ++ [y]) from rfl] at hown
    refine ⟨v', w', hrun, own_mid hown, Keep.ofGrown hgr, fun k hk => .inr (own_block hown k hk)⟩
  · by_cases hroom : L.length + 1 ≤ cap
    · have hcell : o + L.length < cur.size := by omega
      refine ⟨_, _, run_append_room_cells (P := P) w t ty e i ht h1 g o L.length cap ad 1 c (ints [y]) (by rw [h3]; simp [ints]) hnews (ints_one _) hroom ?_ ?_, ?_, ?_, ?_⟩
      · intro j hj
        obtain rfl : j = 0 := by simpa [ints] using hj
        rw [h3]
        simp [World.cell?, hg, hcell]
      · intro j hj
        simp [World.frozen?, hg]
      · have hset := heap_setCell_same w g (o + L.length) cur e (.int .i64 y) hg
        refine .inr ⟨g, o, cap, cur.setIfInBounds (o + L.length) (.int .i64 y), by simp, ?_, by simpa using hroom, hcm, by simpa using hsz, fun j hj => ?_⟩
        · rw [h3, Nat.mul_one]; simpa [World.setCells, ints] using hset
        · rw [List.length_append, List.length_singleton] at hj
          by_cases e : j = L.length
          · subst e
            rw [Array.getElem?_setIfInBounds_self_of_lt hcell]; simp
          · rw [Array.getElem?_setIfInBounds_ne (by omega), snoc_get L y j (by omega)]
            exact hcur j (by omega)
      · rw [h3, Nat.mul_one]
        have := Keep.setCell (S := [g]) w (a := ⟨g, o + L.length, none⟩) (.int .i64 y) (by simp)
        simpa [World.setCells, ints, Value.ownBlock] using this
      · intro k hk; exact .inl (by simpa [Value.ownBlock] using hk)
    · obtain ⟨v', w', hrun, hown, hgr⟩ := run_append_arg_grows (P := P) w t ty e i (.int .i64 0) 1 8 ht h1 h2 h3 h4 rfl (by decide) ⟨g, o, none⟩ L.length cap (ints L) (by rw [ints_length, Nat.mul_one]) (by
        intro j u hu
        have hj : j < L.length := by
          rcases Nat.lt_or_ge j L.length with hj | hj
          · exact hj
          · rw [List.getElem?_eq_none (by rw [ints_length]; exact hj)] at hu; cases hu
        rw [ints_get L j hj] at hu
        rw [Addr.add_lit]
        simp [World.cell?, hg, hcur j hj]
        exact Option.some.inj hu) ad 1 c (ints [y]) (by simp [ints]) hnews (by omega) (by unfold maxLen; omega) (by omega)
      rw [ints_app] at hown
      refine ⟨v', w', hrun, own_mid hown, (Keep.ofGrown hgr).mono (by simp), fun k hk => .inr (own_block hown k hk)⟩

/-- For the walk. -/
theorem wpList_append_mid {P : Program} (w : World) {ops : Array Oper} {rest : List Oper} {o : Oper} {a : Act} {Q : Exit → Act → World → Prop} (hgd : o.guard = none) (s x : Operand) (t : TypeId)
    (ho : o.op = .call { callee := .builtin .append, args := #[s, x], argTypes := #[t, t] }) (e : TypeId) (i : TypeInfo) (ht : P.underlying t = some (.slice e)) (hi : P.info? e = some i ∧ i.zero = some (.int .i64 0) ∧ i.size = 1 ∧ i.bytes = 8)
    (v : Value) (L : List Int) (hs : a.eval s = v) (hv : IsMid w e v L) (b : Nat) (y : Int) (c : Nat) (hx : a.eval x = .slice (some ⟨b, 0, none⟩) 1 c) (hy : w.cell? ⟨b, 0, none⟩ = some (.int .i64 y)) (hl : L.length ≤ 1000000)
    (h : ∀ v' w', IsMid w' e v' (L ++ [y]) → Keep v.ownBlock.toList w w' → (∀ k, v'.ownBlock = some k → v.ownBlock = some k ∨ w.heap.size ≤ k) → wpList P ops Q rest (a.put o.dst v') w') : wpList P ops Q (o :: rest) a w := by
  refine wpList_plain hgd fun K hK' => ?_
  obtain ⟨v', w', hrun, r1, r2, r3⟩ := run_append_mid (P := P) w t o.type e i ht hi v L hv ⟨b, 0, none⟩ y c hy (by simp [Addr.add]) hl
  unfold Oper.wp
  simp [execOp, ho, resolve, invoke, builtin, hs, hx, hrun, Result.andThen]
  exact hK' _ _ (h v' w' r1 r2 r3)
/-- At a step of a region that draws. -/
theorem step_append_mid {P : Program} (w : World) {ops : Array Oper} {o : Oper} {a : Act} {K : Act → World → Prop} {Q : Exit → Act → World → Prop} {E : Prop} (hgd : o.guard = none) (s x : Operand) (t : TypeId)
    (ho : o.op = .call { callee := .builtin .append, args := #[s, x], argTypes := #[t, t] }) (e : TypeId) (i : TypeInfo) (ht : P.underlying t = some (.slice e)) (hi : P.info? e = some i ∧ i.zero = some (.int .i64 0) ∧ i.size = 1 ∧ i.bytes = 8)
    (v : Value) (L : List Int) (hs : a.eval s = v) (hv : IsMid w e v L) (b : Nat) (y : Int) (c : Nat) (hx : a.eval x = .slice (some ⟨b, 0, none⟩) 1 c) (hy : w.cell? ⟨b, 0, none⟩ = some (.int .i64 y)) (hl : L.length ≤ 1000000)
    (h : ∀ v' w', IsMid w' e v' (L ++ [y]) → Keep v.ownBlock.toList w w' → (∀ k, v'.ownBlock = some k → v.ownBlock = some k ∨ w.heap.size ≤ k) → K (a.put o.dst v') w') :
    if Region.wanted o (yielded ops a.tmps) = true then Oper.wp P o a w K Q else E := by
  have hw : Region.wanted o (yielded ops a.tmps) = true := by simp [Region.wanted, hgd]
  rw [if_pos hw]
  obtain ⟨v', w', hrun, r1, r2, r3⟩ := run_append_mid (P := P) w t o.type e i ht hi v L hv ⟨b, 0, none⟩ y c hy (by simp [Addr.add]) hl
  unfold Oper.wp
  simp [execOp, ho, resolve, invoke, builtin, hs, hx, hrun, Result.andThen]
  exact h v' w' r1 r2 r3

/-! ### As parts of memory -/
def midA (t : TypeId) (v : Value) (L : List Int) : Asn where
  at' w F := F = v.ownBlock.toList ∧ IsMid w t v L
  keep := fun h K hS => ⟨h.1, h.2.keep K (fun k e => hS k (by rw [h.1, e]; simp))⟩
  lt := fun h k hk => by
    rw [h.1] at hk
    exact h.2.lt k (by simpa using hk)
/-- A row of values of one cell each, of one's own. -/
def vecA (t : TypeId) (va : Option Addr) (vc : Nat) (vs : List Value) : Asn where
  at' w F := F = va.toList.map (·.block) ∧ w.ownsRow 0 t 1 (.slice va vs.length vc) vs.length vs ∧ ∀ a, va = some a → a.block < w.heap.size
  keep := fun h K hS => ⟨h.1, own_keepS h.2.1 K (fun y e => hS _ (by rw [h.1, e]; simp)), fun a e => Nat.lt_of_lt_of_le (h.2.2 a e) K.size⟩
  lt := fun h k hk => by
    rw [h.1] at hk
    simp at hk
    obtain ⟨a, e, rfl⟩ := hk
    exact h.2.2 a e
def emptyA : Asn where
  at' _ F := F = []
  keep := fun h _ _ => h
  lt := fun h k hk => by rw [h] at hk; cases hk
/-- A part one of whose cells is known. -/
def Asn.pin (A : Asn) (b j : Nat) (v : Value) : Asn where
  at' w F := A.at' w F ∧ b ∈ F ∧ w.cell? ⟨b, j, none⟩ = some v
  keep := fun h K hS => ⟨A.keep h.1 K hS, h.2.1, (K.cell (A.lt h.1 _ h.2.1) (hS _ h.2.1) _).trans h.2.2⟩
  lt := fun h => A.lt h.1
/-- Parts in a row, no two of which share a block. -/
def rowA : List Asn → Asn
  | [] => emptyA
  | A :: l => A.star (rowA l)
theorem star_mono {A B B' : Asn} {w : World} {F : List Nat} (g : ∀ F, B.at' w F → B'.at' w F) (h : (A.star B).at' w F) : (A.star B').at' w F := by
  obtain ⟨F1, F2, hF, h1, h2, hd⟩ := h
  exact ⟨F1, F2, hF, h1, g F2 h2, hd⟩
theorem rowA_get {w : World} {A : Asn} : ∀ (l : List Asn) (i : Nat) (F : List Nat), l[i]? = some A → (rowA l).at' w F → (A.star (rowA (l.eraseIdx i))).at' w F
  | [], i, F, e, _ => by simp at e
  | B :: l, 0, F, e, h => by
    simp at e
    subst e
    exact h
  | B :: l, i + 1, F, e, h => by
    have h1 : (B.star (A.star (rowA (l.eraseIdx i)))).at' w F := star_mono (fun F g => rowA_get l i F (by simpa using e) g) h
    have h2 := star_assoc' h1
    have h3 : ((A.star B).star (rowA (l.eraseIdx i))).at' w F := star_comm (star_mono (fun F g => star_comm g) (star_comm h2))
    exact star_assoc h3
theorem rowA_put {w : World} {A : Asn} : ∀ (l : List Asn) (i : Nat) (F : List Nat), i < l.length → (A.star (rowA (l.eraseIdx i))).at' w F → (rowA (l.set i A)).at' w F
  | [], i, F, e, _ => by simp at e
  | B :: l, 0, F, e, h => h
  | B :: l, i + 1, F, e, h => by
    have h0 : (A.star (B.star (rowA (l.eraseIdx i)))).at' w F := h
    have h1 := star_assoc' h0
    have h2 : ((B.star A).star (rowA (l.eraseIdx i))).at' w F := star_comm (star_mono (fun F g => star_comm g) (star_comm h1))
    exact star_mono (fun F g => rowA_put l i F (by simpa using e) g) (star_assoc h2)
theorem rowA_snoc {w : World} {A : Asn} : ∀ (l : List Asn) (F : List Nat), ((rowA l).star A).at' w F → (rowA (l ++ [A])).at' w F
  | [], F, h => by
    obtain ⟨F1, F2, hF, h1, h2, hd⟩ := h
    exact ⟨F2, F1, fun k => (hF k).trans Or.comm, h2, h1, fun k e e' => hd k e' e⟩
  | B :: l, F, h => star_mono (fun F g => rowA_snoc l F g) (star_assoc h)
/-- One of them is turned. -/
theorem Has.inRow {w0 w w' : World} {F0 : List Nat} {l : List Asn} {i : Nat} {A A' : Asn} (h : Has w0 F0 (rowA l) w) (e : l[i]? = some A) (g : ∀ F, A.at' w F → Has w F A' w') : Has w0 F0 (rowA (l.set i A')) w' := by
  have hi : i < l.length := by
    rcases Nat.lt_or_ge i l.length with hi | hi
    · exact hi
    · rw [List.getElem?_eq_none hi] at e; cases e
  exact (Has.left (h.map (fun F h => rowA_get l i F e h)) g).map (fun F h => rowA_put l i F hi h)

end Go.Proofs.YtjlbfojbgnhhbaaGreat

/-
  A list of lists of integers, each in a row of its own: what is read of it, and what it is when one of them is another, or one more is there.
-/
namespace Go.Proofs.YtjlbfojbgnhhbaaGreat
open Go.RowKit

def midP (p : Value × List Int) : Asn := midA 3 p.1 p.2
def llraw (va : Option Addr) (vc : Nat) (ps : List (Value × List Int)) : Asn := (vecA 23 va vc (ps.map (·.1))).star (rowA (ps.map midP))
def llA (va : Option Addr) (vc : Nat) (Ls : List (List Int)) : Asn where
  at' w F := ∃ ps : List (Value × List Int), ps.map (·.2) = Ls ∧ (llraw va vc ps).at' w F
  keep := fun h K hS => by
    obtain ⟨ps, e, h⟩ := h
    exact ⟨ps, e, (llraw va vc ps).keep h K hS⟩
  lt := fun h => by
    obtain ⟨ps, e, h⟩ := h
    exact (llraw va vc ps).lt h

theorem vec_cell {t : TypeId} {w : World} {F : List Nat} {va : Option Addr} {vc : Nat} {vs : List Value} (h : (vecA t va vc vs).at' w F) {i : Nat} {v : Value} (hi : vs[i]? = some v) : ∃ b, va = some ⟨b, 0, none⟩ ∧ F = [b] ∧ w.cell? ⟨b, i, none⟩ = some v ∧ w.frozen? ⟨b, i, none⟩ = false := by
  have hil : i < vs.length := by
    rcases Nat.lt_or_ge i vs.length with e | e
    · exact e
    · rw [List.getElem?_eq_none e] at hi; cases hi
  obtain ⟨h1, h2, h3⟩ := h
  rcases h2.2 with ⟨_, h0⟩ | ⟨g, cap, cur, e, _, hg, _, _, hsz, htake⟩
  · omega
  · cases e
    rw [Nat.mul_one] at htake
    rw [← htake, List.getElem?_take, if_pos hil] at hi
    have hi' : cur[i]? = some v := by simpa using hi
    exact ⟨g, rfl, by rw [h1]; rfl, by simp [World.cell?, hg, hi'], by simp [World.frozen?, hg]⟩
theorem vec_put {t : TypeId} {w : World} {F : List Nat} {b vc : Nat} {vs : List Value} (h : (vecA t (some ⟨b, 0, none⟩) vc vs).at' w F) (i : Nat) (v : Value) (hi : i < vs.length) : (vecA t (some ⟨b, 0, none⟩) vc (vs.set i v)).at' (w.setCell ⟨b, i, none⟩ v) F := by
  obtain ⟨h1, h2, h3⟩ := h
  rcases h2.2 with ⟨_, h0⟩ | ⟨g, cap, cur, e, h5, hg, h6, h7, hsz, htake⟩
  · omega
  · cases e
    refine ⟨h1, ⟨by simp, .inr ⟨b, vc, cur.setIfInBounds i v, by simp, h5, ?_, by simpa using h6, h7, by simpa using hsz, ?_⟩⟩, fun a e => ?_⟩
    · have := heap_setCell_same w b i cur t v hg
      simpa using this
    · rw [Nat.mul_one] at htake ⊢
      rw [List.length_set, Array.toList_setIfInBounds, List.take_set, htake]
    · have := h3 a e
      simpa [World.setCell] using this

section
variable {w0 w : World} {F0 : List Nat} {va : Option Addr} {vc : Nat} {Ls : List (List Int)} {A : Asn}
theorem at_pair {ps : List (Value × List Int)} (e : ps.map (·.2) = Ls) {i : Nat} {L : List Int} (hi : Ls[i]? = some L) : ∃ v, ps[i]? = some (v, L) := by
  rw [← e, List.getElem?_map] at hi
  cases hp : ps[i]? with
  | none => rw [hp] at hi; cases hi
  | some p =>
    rw [hp] at hi
    obtain ⟨v, L'⟩ := p
    simp at hi
    subst hi
    exact ⟨v, rfl⟩
/-- How many there are. -/
theorem Has.llLen (h : Has w0 F0 (llA va vc Ls) w) : Ls.length ≤ vc ∨ (va = none ∧ Ls = [] ∧ vc = 0) := by
  refine h.fact (fun F h => ?_)
  obtain ⟨ps, e, F1, F2, hF, h1, h2, hd⟩ := h
  rcases h1.2.1.2 with ⟨h3, h4⟩ | ⟨g, cap, cur, h3, _, _, h4, _⟩
  · right
    injection h3 with q1 q2 q3
    refine ⟨q1, ?_, q3⟩
    rw [← e]
    simp at h4
    simp [h4]
  · left
    injection h3 with q1 q2 q3
    rw [q3, ← e]
    simpa using h4
/-- One of them, as it is read. -/
theorem Has.llCell (h : Has w0 F0 (llA va vc Ls) w) {i : Nat} {L : List Int} (hi : Ls[i]? = some L) : ∃ b v, va = some ⟨b, 0, none⟩ ∧ w.cell? ⟨b, i, none⟩ = some v ∧ w.frozen? ⟨b, i, none⟩ = false ∧ IsMid w 3 v L ∧ v.ownBlock ≠ some b := by
  refine h.fact (fun F h => ?_)
  obtain ⟨ps, e, F1, F2, hF, h1, h2, hd⟩ := h
  obtain ⟨v, hp⟩ := at_pair e hi
  obtain ⟨b, e1, e2, e3, e4⟩ := vec_cell h1 (i := i) (v := v) (by rw [List.getElem?_map, hp]; rfl)
  obtain ⟨F3, F4, hF', h3, h4, hd'⟩ := rowA_get (ps.map midP) i F2 (A := midP (v, L)) (by rw [List.getElem?_map, hp]; rfl) h2
  obtain ⟨h5, h6⟩ := h3
  refine ⟨b, v, e1, e3, e4, h6, fun e5 => ?_⟩
  have hb : b ∈ F3 := by rw [h5]; show b ∈ v.ownBlock.toList; rw [e5]; simp
  exact hd b (by rw [e2]; simp) ((hF' b).2 (.inl hb))
/-- One of them is another: it lies where it lay, or in memory that is new. -/
theorem Has.llPut {w' : World} {b i : Nat} {v v' : Value} {L' : List Int} (h : Has w0 F0 (llA (some ⟨b, 0, none⟩) vc Ls) w) (hi : i < Ls.length) (hc : w.cell? ⟨b, i, none⟩ = some v)
    (hm : IsMid w' 3 v' L') (K : Keep v.ownBlock.toList w w') (hb : ∀ k, v'.ownBlock = some k → v.ownBlock = some k ∨ w.heap.size ≤ k) :
    Has w0 F0 (llA (some ⟨b, 0, none⟩) vc (Ls.set i L')) (w'.setCell ⟨b, i, none⟩ v') := by
  obtain ⟨F, ⟨ps, e, F1, F2, hF, h1, h2, hd⟩, u⟩ := h
  obtain ⟨L, hL⟩ : ∃ L, Ls[i]? = some L := ⟨_, List.getElem?_eq_getElem hi⟩
  obtain ⟨v0, hp⟩ := at_pair e hL
  have hpl : i < ps.length := by rw [← e, List.length_map] at hi; exact hi
  obtain ⟨b0, e1, e2, e3, e4⟩ := vec_cell h1 (i := i) (v := v0) (by rw [List.getElem?_map, hp]; rfl)
  injection e1 with e1
  injection e1 with e1
  subst e1
  obtain rfl : v0 = v := by rw [hc] at e3; injection e3 with e3; exact e3.symm
  have h3 := rowA_get (ps.map midP) i F2 (A := midP (v0, L)) (by rw [List.getElem?_map, hp]; rfl) h2
  obtain ⟨F3, F4, hF', ⟨h5, h6⟩, h4, hd'⟩ := h3
  have h5' : F3 = v0.ownBlock.toList := h5
  obtain ⟨F2', g1, g2⟩ := star_left (A' := midA 3 v' L') (F1' := v'.ownBlock.toList) hF' hd' h4 ⟨rfl, hm⟩ ⟨by rw [h5']; exact K, fun k hk => by
    rw [h5']
    rcases hb k (by simpa using hk) with g | g
    · exact .inl (by simpa using g)
    · exact .inr g⟩
  have g3 := rowA_put (ps.map midP) i F2' (by rw [List.length_map]; exact hpl) g1
  obtain ⟨F', g4, g5⟩ := star_right (A := vecA 23 (some ⟨b, 0, none⟩) vc (ps.map (·.1))) hF hd h1 g3 g2
  obtain ⟨G1, G2, hG, k1, k2, hk⟩ := g4
  have kk : Upd w' (w'.setCell ⟨b, i, none⟩ v') G1 G1 := by
    refine ⟨Keep.setCell _ _ ?_, fun k e => .inl e⟩
    rw [k1.1]; simp
  obtain ⟨F'', k3, k4⟩ := star_left hG hk k2 (vec_put k1 i v' (by rw [List.length_map]; exact hpl)) kk
  refine ⟨F'', ⟨ps.set i (v', L'), by rw [List.map_set, e], ?_⟩, (u.trans g5).trans k4⟩
  show ((vecA 23 (some ⟨b, 0, none⟩) vc ((ps.set i (v', L')).map (·.1))).star (rowA ((ps.set i (v', L')).map midP))).at' _ _
  rw [List.map_set, List.map_set]
  exact k3
/-- What is read while one of them grows. -/
theorem Has.llFar {w' : World} {b i : Nat} {v : Value} {L : List Int} (h : Has w0 F0 (llA (some ⟨b, 0, none⟩) vc Ls) w) (hi : Ls[i]? = some L) (hc : w.cell? ⟨b, i, none⟩ = some v) (K : Keep v.ownBlock.toList w w') : w'.cell? ⟨b, i, none⟩ = some v ∧ w'.frozen? ⟨b, i, none⟩ = false := by
  obtain ⟨b0, v0, e1, e2, e3, e4, e5⟩ := h.llCell hi
  injection e1 with e1
  injection e1 with e1
  subst e1
  obtain rfl : v0 = v := by rw [hc] at e2; injection e2 with e2; exact e2.symm
  have hlt := lt_of_cell2' e2
  have hb := K.block b hlt (by simpa using e5)
  exact ⟨(World.cell?_of_block (w := w) hb).trans hc, (World.frozen?_of_block (w := w) hb).trans e3⟩
/-- None as yet. -/
theorem Has.llNew (h : Has w0 F0 A w) : Has w0 F0 (A.star (llA none 0 [])) w := by
  refine h.more (Keep.refl _ _) (G := []) ⟨[], rfl, [], [], by simp, ⟨rfl, World.ownsRow_nil _ _ _ _, by simp⟩, rfl, by simp⟩ (by simp)
/-- What its elements are, as values; one more, beside whatever. -/
theorem Has.llOwn {B : Asn} (h : Has w0 F0 (B.star (llA va vc Ls)) w) : ∃ vs : List Value, vs.length = Ls.length ∧ w.ownsRow 0 23 1 (.slice va Ls.length vc) Ls.length vs ∧ (∀ a, va = some a → a.block < w.heap.size) ∧
    (∀ (w' : World) (g cap H : Nat), w'.ownsRow 0 23 1 (.slice (some ⟨g, 0, none⟩) (Ls.length + 1) cap) (Ls.length + 1) (vs ++ [.slice none 0 0]) → Keep (va.toList.map (·.block)) w w' → ((Value.slice va Ls.length vc).ownBlock = some g ∨ g = H) → w.heap.size ≤ H → g < w'.heap.size → Has w0 F0 (B.star (llA (some ⟨g, 0, none⟩) cap (Ls ++ [[]]))) w') := by
  obtain ⟨G, ⟨G1, G2, hG, hB, ⟨ps, e, F1, F2, hF, h1, h2, hd⟩, hGd⟩, u⟩ := h
  have hl : ps.length = Ls.length := by rw [← e, List.length_map]
  obtain ⟨h3, h4, h5⟩ := h1
  rw [List.length_map, hl] at h4
  refine ⟨ps.map (·.1), by rw [List.length_map]; exact hl, h4, h5, fun w' g cap H ho hg hat hH hlt => ?_⟩
  have hK : Keep F1 w w' := by rw [h3]; exact hg
  have hrow : (rowA (ps.map midP)).at' w' F2 := (rowA (ps.map midP)).keep h2 hK (fun k e1 e2 => hd k e2 e1)
  have hrow2 : (rowA (ps.map midP ++ [midA 3 (.slice none 0 0) []])).at' w' F2 := rowA_snoc _ _ ⟨F2, [], by simp, hrow, ⟨rfl, IsMid.nil _ _⟩, by simp⟩
  have hvec : (vecA 23 (some ⟨g, 0, none⟩) cap (ps.map (·.1) ++ [.slice none 0 0])).at' w' [g] := by
    refine ⟨rfl, ?_, fun a e => by cases e; exact hlt⟩
    rw [List.length_append, List.length_map, hl, List.length_singleton]
    exact ho
  have hgF : g ∈ F1 ∨ w.heap.size ≤ g := by
    rcases hat with e1 | e1
    · left
      rw [h3]
      cases va with
      | none => simp [Value.ownBlock] at e1
      | some z => simp [Value.ownBlock] at e1; simp [e1]
    · right; omega
  have hlt2 := (rowA (ps.map midP)).lt h2
  have hnew : (llA (some ⟨g, 0, none⟩) cap (Ls ++ [[]])).at' w' (g :: F2) := by
    refine ⟨ps ++ [(.slice none 0 0, [])], by rw [List.map_append, e]; rfl, [g], F2, by simp, by rw [List.map_append]; exact hvec, by rw [List.map_append]; exact hrow2, fun k hk hk2 => ?_⟩
    simp at hk
    subst hk
    rcases hgF with g1 | g1
    · exact hd _ g1 hk2
    · have := hlt2 _ hk2; omega
  have hupd : Upd w w' G2 (g :: F2) := by
    refine ⟨hK.mono (fun k e => (hF k).2 (.inl e)), fun k hk => ?_⟩
    rcases List.mem_cons.1 hk with rfl | hk
    · exact hgF.imp (fun g1 => (hF _).2 (.inl g1)) id
    · exact .inl ((hF k).2 (.inr hk))
  obtain ⟨F', k1, k2⟩ := star_right hG hGd hB hnew hupd
  exact ⟨F', k1, u.trans k2⟩
end

end Go.Proofs.YtjlbfojbgnhhbaaGreat

/-
  What the calls of queues answer and leave, whatever is asked: plain facts.
-/
namespace Go.Proofs.YtjlbfojbgnhhbaaGreat
open Go.RowKit

/-- What link leaves. -/
inductive LinkT (kd : List PK) (ws : List Int) (a x : Int) : List Int → Prop
  | no (k c l E : Int) (f : Bool) : HeadT kd ws a k c l f E → k ≠ 4 → LinkT kd ws a x ws
  | yes (b m : Nat) (c l E : Int) (f : Bool) (ws' : List Int) : At kd ws a b m 4 c l f → PutT kd ws a 2 x E ws' → LinkT kd ws a x ws'
theorem LinkT.fine {kd : List PK} {ws ws' : List Int} {ds : List (Int × List Int)} {a x : Int} (h : LinkT kd ws a x ws') (hf : Fine ws kd ds) (hx : inI x) : Fine ws' kd ds := by
  cases h with
  | no k c l E f h1 h2 => exact hf
  | yes b m c l E f ws' h1 h2 => exact h2.fine hf hx
def IsQ (Ls : List (List Int)) (i : Int) : Prop := 0 ≤ i ∧ i < (Ls.length : Int)
/-- What Push answers and leaves. -/
inductive PushT (kd : List PK) (ws : List Int) (Ls : List (List Int)) (i a : Int) : Int → List Int → List (List Int) → Prop
  | none : ¬ IsQ Ls i → PushT kd ws Ls i a 2 ws Ls
  | kind (k c l E : Int) (f : Bool) : IsQ Ls i → HeadT kd ws a k c l f E → k ≠ 4 → PushT kd ws Ls i a 5 ws Ls
  | first (j b m : Nat) (c l : Int) (f : Bool) (ws' : List Int) : i = j → Ls[j]? = some [] → At kd ws a b m 4 c l f → LinkT kd ws a 0 ws' → PushT kd ws Ls i a 0 ws' (Ls.set j [a])
  | more (j b m : Nat) (c l y : Int) (f : Bool) (L : List Int) (ws1 ws' : List Int) : i = j → Ls[j]? = some (L ++ [y]) → At kd ws a b m 4 c l f → LinkT kd ws y a ws1 → LinkT kd ws1 a 0 ws' → PushT kd ws Ls i a 0 ws' (Ls.set j (L ++ [y] ++ [a]))
/-- What Poll answers and leaves. -/
inductive PollT (kd : List PK) (ws : List Int) (Ls : List (List Int)) (i : Int) : Int → Int → List Int → List (List Int) → Prop
  | none : ¬ IsQ Ls i → PollT kd ws Ls i 0 2 ws Ls
  | empty (j : Nat) : i = j → Ls[j]? = some [] → PollT kd ws Ls i 0 0 ws Ls
  | yes (j : Nat) (x : Int) (L : List Int) (ws' : List Int) : i = j → Ls[j]? = some (x :: L) → LinkT kd ws x 0 ws' → PollT kd ws Ls i x 0 ws' (Ls.set j L)

end Go.Proofs.YtjlbfojbgnhhbaaGreat

/-
  Queues in memory: their block, their rows, and the heap that they are of.
-/
namespace Go.Proofs.YtjlbfojbgnhhbaaGreat
open Go.RowKit

/-- Lists that may be rows of queues. -/
def QOK (Ls : List (List Int)) : Prop := Ls.length ≤ 8 ∧ ∀ L, L ∈ Ls → L.length ≤ 1000000 ∧ inR L
section
variable {w0 w : World} {F0 : List Nat} {qb hb : Nat} {va : Option Addr} {vc : Nat} {ws : List Int} {kd : List PK} {ds : List (Int × List Int)} {Ls : List (List Int)}
/-- The first part's block is another. -/
theorem Has.setB {A : Asn} {w' : World} {b : Nat} {o o' : Obj} (h : Has w0 F0 ((blockA b o).star A) w) (K : Keep [b] w w') (ho : w'.heap[b]? = some o') : Has w0 F0 ((blockA b o').star A) w' :=
  Has.left h (fun F hF => ⟨[b], ⟨rfl, ho⟩, by rw [hF.1]; exact K, fun k e => by rw [hF.1]; exact .inl e⟩)
theorem Has.swap {A B C : Asn} (h : Has w0 F0 ((A.star B).star C) w) : Has w0 F0 ((A.star C).star B) w :=
  (h.assoc.map (fun _ g => star_mono (fun _ g => star_comm g) g)).assoc'
/-- The row of lists, and a block ahead of it, are not one. -/
theorem Has.llNe {A : Asn} {b : Nat} {o : Obj} (h : Has w0 F0 (((blockA b o).star A).star (llA va vc Ls)) w) : ∀ a, va = some a → a.block ≠ b := by
  intro a e e'
  obtain ⟨F, ⟨F1, F2, hF, ⟨F3, F4, hF', h3, _, _⟩, ⟨ps, _, F5, F6, hF'', h5, _, _⟩, hd⟩, u⟩ := h
  refine hd b ((hF' b).2 (.inl ?_)) ((hF'' b).2 (.inl ?_))
  · rw [h3.1]; simp
  · rw [h5.1, e, ← e']; simp
theorem hid {p : Prop} (h : p) : Hid p := h
/-- A block that is new. -/
theorem Has.newB {A : Asn} (h : Has w0 F0 A w) (o : Obj) : Has w0 F0 (A.star (blockA w.heap.size o)) (w.alloc o) :=
  h.more (Keep.alloc [] w o) (G := [w.heap.size]) ⟨rfl, heap_alloc_new w o⟩ (fun k hk => by simp at hk; omega)
theorem Has.unpin {A B : Asn} {b j : Nat} {v : Value} (h : Has w0 F0 ((A.pin b j v).star B) w) : Has w0 F0 (A.star B) w ∧ w.cell? ⟨b, j, none⟩ = some v :=
  ⟨h.map (fun F g => by obtain ⟨F1, F2, hF, h1, h2, hd⟩ := g; exact ⟨F1, F2, hF, h1.1, h2, hd⟩), h.fst.fact (fun _ g => g.2.2)⟩
theorem QOK.set (h : QOK Ls) (j : Nat) {L' : List Int} (h1 : L'.length ≤ 1000000) (h2 : inR L') : QOK (Ls.set j L') := by
  refine ⟨by rw [List.length_set]; exact h.1, fun L hL => ?_⟩
  rcases List.mem_or_eq_of_mem_set hL with e | e
  · exact h.2 L e
  · subst e; exact ⟨h1, h2⟩
/-- A call that turns the first part into one that it tells of. -/
theorem has_left_ex {X : Type} {P : Program} {f : FuncId} {args : Array Value} {A B : Asn} {A' : X → Asn} {Q : X → Ending → World → Prop} (h : Has w0 F0 (A.star B) w) (hc : ∀ F, Has w F A w → Calls P f args w fun e w' => ∃ x, Q x e w' ∧ Has w F (A' x) w') :
    Calls P f args w fun e w' => ∃ x, Q x e w' ∧ Has w0 F0 ((A' x).star B) w' := by
  obtain ⟨F, ⟨F1, F2, hF, h1, h2, hd⟩, u⟩ := h
  refine (hc F1 (Has.start h1)).mono ?_
  rintro e w' ⟨x, hq, F', g1, g2⟩
  obtain ⟨F'', h5, h6⟩ := star_left hF hd h2 g1 g2
  exact ⟨x, hq, F'', h5, u.trans h6⟩
/-- A call that turns nothing of the first part. -/
theorem has_fst {P : Program} {f : FuncId} {args : Array Value} {A B : Asn} {Q : Ending → World → Prop} (h : Has w0 F0 (A.star B) w) (hc : Has w0 F0 A w → Calls P f args w fun e w' => Q e w' ∧ Keep [] w w') :
    Calls P f args w fun e w' => Q e w' ∧ Has w0 F0 (A.star B) w' := by
  refine (hc h.fst).mono ?_
  rintro e w' ⟨hq, hK⟩
  exact ⟨hq, h.keep0 hK⟩
/-- So many empty rows. -/
def nQ (n : Nat) : List (List Int) := List.replicate n []
theorem nQ_length (n : Nat) : (nQ n).length = n := by simp [nQ]
theorem nQ_get (n i : Nat) (h : i < n) : (nQ n)[i]? = some [] := by simp [nQ, h]
theorem nQ_more (n : Nat) : nQ n ++ [[]] = nQ (n + 1) := by simp [nQ, List.replicate_succ']
end

end Go.Proofs.YtjlbfojbgnhhbaaGreat
