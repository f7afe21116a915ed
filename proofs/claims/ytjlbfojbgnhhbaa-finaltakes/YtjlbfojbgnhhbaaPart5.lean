/-
  Contracts of what the statement calls, one text behind the other (ListA, OwnA, FinT, Obj, ObjMake, ObjNew, ObjList, ObjAll, ObjRoom, ChainM).
-/
import Derived.Test.YtjlbfojbgnhhbaaPart1
import Derived.Test.YtjlbfojbgnhhbaaPart4
import Derived.Test.YtjlbfojbgnhhbaaPart2
import Derived.Deep.RegionHeld3
import Derived.Deep.RegionLaw
import Derived.Deep.AppendLies

/-
  A list of integers that nothing turns, as a part of memory beside others.
-/
namespace Go.Proofs.Ytjlbfojbgnhhbaa
open Go.RowKit

def listA (la : Option Addr) (L : List Int) : Asn where
  at' w F := F = la.toList.map (·.block) ∧ IntsAt w la L ∧ ∀ a, la = some a → a.block < w.heap.size
  keep := fun h K hS => ⟨h.1, h.2.1.keep K (fun _ a e => hS _ (by rw [h.1, e]; simp)), fun a e => Nat.lt_of_lt_of_le (h.2.2 a e) K.size⟩
  lt := fun h k hk => by
    rw [h.1] at hk
    simp at hk
    obtain ⟨a, e, rfl⟩ := hk
    exact h.2.2 a e
theorem Has.list {w0 w : World} {F0 : List Nat} {la : Option Addr} {L : List Int} (h : Has w0 F0 (listA la L) w) : IntsAt w la L := h.fact (fun _ h => h.2.1)
/-- A list that was made since w beside what there is. -/
theorem Has.listed {w0 w w' : World} {F0 : List Nat} {A : Asn} {v : Value} {n : Nat} {L : List Int} {t : TypeId} (h : Has w0 F0 A w) (K : Keep [] w w') (ho : w'.ownsRow w.heap.size t 1 v n (ints L)) (hb : ∀ i : Nat, -9223372036854775808 ≤ L[i]?.getD 0 ∧ L[i]?.getD 0 ≤ 9223372036854775807) :
    ∃ la lc, v = .slice la L.length lc ∧ (la = none → lc = 0) ∧ Has w0 F0 (A.star (listA la L)) w' := by
  rcases own_ints ho hb with ⟨rfl, rfl, _⟩ | ⟨g, cap, rfl, _, h2, h3, h4⟩
  · exact ⟨none, 0, rfl, fun _ => rfl, h.more K (G := []) ⟨rfl, IntsAt.nil _ _, by simp⟩ (by simp)⟩
  · exact ⟨some ⟨g, 0, none⟩, cap, rfl, by simp, h.more K (G := [g]) ⟨rfl, h4, fun a e => by cases e; exact h3⟩ (by simpa using h2)⟩

end Go.Proofs.Ytjlbfojbgnhhbaa

/-
  A list of integers that grows, as a part of memory beside others.
-/
namespace Go.Proofs.Ytjlbfojbgnhhbaa
open Go.RowKit

def ownA (t : TypeId) (la : Option Addr) (q c : Nat) (L : List Int) : Asn where
  at' w F := F = la.toList.map (·.block) ∧ w.ownsRow 0 t 1 (.slice la q c) q (ints L) ∧ ∀ a, la = some a → a.block < w.heap.size
  keep := fun h K hS => ⟨h.1, own_keepS h.2.1 K (fun y e => hS _ (by rw [h.1, e]; simp)), fun a e => Nat.lt_of_lt_of_le (h.2.2 a e) K.size⟩
  lt := fun h k hk => by
    rw [h.1] at hk
    simp at hk
    obtain ⟨a, e, rfl⟩ := hk
    exact h.2.2 a e
theorem Has.own {w0 w : World} {F0 : List Nat} {t : TypeId} {la : Option Addr} {q c : Nat} {L : List Int} (h : Has w0 F0 (ownA t la q c L) w) : w.ownsRow 0 t 1 (.slice la q c) q (ints L) := h.fact (fun _ h => h.2.1)
theorem Has.ownNew {w0 w : World} {F0 : List Nat} {A : Asn} (t : TypeId) (h : Has w0 F0 A w) : Has w0 F0 (A.star (ownA t none 0 0 [])) w :=
  h.more (Keep.refl _ _) (G := []) ⟨rfl, World.ownsRow_nil _ _ _ _, by simp⟩ (by simp)
theorem Has.ownMore {w0 w w' : World} {F0 : List Nat} {A : Asn} {t : TypeId} {la : Option Addr} {q c q' c' g H : Nat} {L L' : List Int} (h : Has w0 F0 (A.star (ownA t la q c L)) w) (ho : w'.ownsRow 0 t 1 (.slice (some ⟨g, 0, none⟩) q' c') q' (ints L')) (hg : w.grownBy w' (Value.slice la q c).ownBlock)
    (hb : (Value.slice la q c).ownBlock = some g ∨ g = H) (hH : w.heap.size = H) (hlt : g < w'.heap.size) : Has w0 F0 (A.star (ownA t (some ⟨g, 0, none⟩) q' c' L')) w' := by
  refine (Has.left h.comm (A' := ownA t (some ⟨g, 0, none⟩) q' c' L') (fun F hF => ⟨[g], ⟨rfl, ho, fun a e => by cases e; exact hlt⟩, ?_, fun k hk => ?_⟩)).comm
  · rw [hF.1]; exact grown_keep hg
  · simp at hk
    subst hk
    rcases hb with hb | hb
    · left
      rw [hF.1]
      cases la with
      | none => simp [Value.ownBlock] at hb
      | some z => simp [Value.ownBlock] at hb; simp [hb]
    · right; omega

end Go.Proofs.Ytjlbfojbgnhhbaa

/-
  Finals, their mathematics: what Await, Pend and Take answer and leave of two lists; a list that was made since.
-/
namespace Go.Proofs.Ytjlbfojbgnhhbaa
open Go.RowKit

/-- What Await answers and leaves. -/
def awaitL (E : Int) (L : List Int) (a : Int) : List Int := if E = 0 then L ++ [a] else L
theorem inR_snoc {L : List Int} {a : Int} (h : inR L) (ha : inI a) : inR (L ++ [a]) := by
  intro i
  by_cases hi : i < L.length
  · rw [List.getElem?_append_left hi]; exact h i
  · rw [List.getElem?_append_right (by omega)]
    rcases (show i - L.length = 0 ∨ 1 ≤ i - L.length by omega) with e | e
    · rw [e]; exact ha
    · rw [List.getElem?_eq_none (by simpa using e)]; simp

/-- A list, but for a number. -/
def withoutL (L : List Int) (x : Int) : List Int := L.filter (fun y => decide (y ≠ x))
theorem withoutL_snoc (L : List Int) (x : Int) (j : Nat) (h : j < L.length) : withoutL (L.take (j + 1)) x = if L[j]?.getD 0 = x then withoutL (L.take j) x else withoutL (L.take j) x ++ [L[j]?.getD 0] := by
  have e : L.take (j + 1) = L.take j ++ [L[j]?.getD 0] := by rw [List.take_add_one]; simp [h]
  rw [e]
  unfold withoutL
  rw [List.filter_append]
  by_cases hx : L[j]?.getD 0 = x
  · rw [if_pos hx, List.filter_cons_of_neg (by simp [hx])]; simp
  · rw [if_neg hx, List.filter_cons_of_pos (by simp [hx])]; simp
theorem inR_without {L : List Int} (h : inR L) (x : Int) : inR (withoutL L x) := by
  intro i
  by_cases hi : i < (withoutL L x).length
  · have hm : (withoutL L x)[i]?.getD 0 ∈ L := by
      rw [List.getElem?_eq_getElem hi]
      exact (List.mem_filter.1 (List.getElem_mem hi)).1
    obtain ⟨j, hj, e⟩ := List.getElem_of_mem hm
    have := h j
    rw [List.getElem?_eq_getElem hj, e] at this
    exact this
  · rw [List.getElem?_eq_none (by omega)]; simp
theorem withoutL_le (L : List Int) (x : Int) : (withoutL L x).length ≤ L.length := List.length_filter_le _ _

/-- One number is made pending, if it waits. -/
def pend1 (s : List Int × List Int) (x : Int) : List Int × List Int := if inL s.1 x = true then (withoutL s.1 x, s.2 ++ [x]) else s
def pendL (L Q M : List Int) : List Int × List Int := M.foldl pend1 (L, Q)
theorem pendL_snoc (L Q M : List Int) (j : Nat) (h : j < M.length) : pendL L Q (M.take (j + 1)) = pend1 (pendL L Q (M.take j)) (M[j]?.getD 0) := by
  have e : M.take (j + 1) = M.take j ++ [M[j]?.getD 0] := by rw [List.take_add_one]; simp [h]
  rw [e]
  unfold pendL
  rw [List.foldl_append]; rfl
theorem pend1_le (s : List Int × List Int) (x : Int) : (pend1 s x).1.length ≤ s.1.length ∧ (pend1 s x).2.length ≤ s.2.length + 1 := by
  unfold pend1
  split
  · exact ⟨withoutL_le _ _, by simp⟩
  · exact ⟨Nat.le_refl _, Nat.le_succ _⟩
theorem pendL_le (L Q M : List Int) : (pendL L Q M).1.length ≤ L.length ∧ (pendL L Q M).2.length ≤ Q.length + M.length := by
  unfold pendL
  suffices h : ∀ s : List Int × List Int, (M.foldl pend1 s).1.length ≤ s.1.length ∧ (M.foldl pend1 s).2.length ≤ s.2.length + M.length from h (L, Q)
  induction M with
  | nil => intro s; simp
  | cons x M ih =>
    intro s
    have h1 := pend1_le s x
    have h2 := ih (pend1 s x)
    rw [List.foldl_cons, List.length_cons]
    omega

/-- What Take answers and leaves. -/
inductive TakeT (Q : List Int) (i : Int) : Int → Int → List Int → Prop
  | no : (i < 0 ∨ (Q.length : Int) ≤ i) → TakeT Q i 0 1 Q
  | yes (j : Nat) : i = j → j < Q.length → TakeT Q i (Q[j]?.getD 0) 0 (Q.take j ++ Q.drop (j + 1))
theorem takeT_ex (Q : List Int) (i : Int) : ∃ N E Q', TakeT Q i N E Q' := by
  by_cases h : i < 0 ∨ (Q.length : Int) ≤ i
  · exact ⟨_, _, _, .no h⟩
  · exact ⟨_, _, _, .yes i.toNat (by omega) (by omega)⟩
theorem inR_cut {Q : List Int} (h : inR Q) (j : Nat) : inR (Q.take j ++ Q.drop (j + 1)) := by
  intro i
  by_cases hi : i < (Q.take j ++ Q.drop (j + 1)).length
  · have hm : (Q.take j ++ Q.drop (j + 1))[i]?.getD 0 ∈ Q := by
      rw [List.getElem?_eq_getElem hi]
      rcases List.mem_append.1 (List.getElem_mem hi) with e | e
      · exact List.mem_of_mem_take e
      · exact List.mem_of_mem_drop e
    obtain ⟨t, ht, e⟩ := List.getElem_of_mem hm
    have := h t
    rw [List.getElem?_eq_getElem ht, e] at this
    exact this
  · rw [List.getElem?_eq_none (by omega)]; simp
section
variable {w0 w : World} {F0 : List Nat}
/-- A list that was made since w. -/
theorem Has.listed2 {w1 : World} {A : Asn} {t : TypeId} {v : Value} {n : Nat} {L' : List Int} (h : Has w0 F0 A w) (K : Keep [] w w1) (ho : w1.ownsRow w.heap.size t 1 v n (ints L')) (hb : inR L') :
    ∃ la c, v = .slice la L'.length c ∧ (la = none → c = 0) ∧ L'.length ≤ c ∧ Has w0 F0 (A.star (listA la L')) w1 := by
  obtain ⟨la, c, rfl, hc, h1⟩ := h.listed K ho hb
  exact ⟨la, c, rfl, hc, ((own_mid ho).ints hb).2.2.2, h1⟩
end

end Go.Proofs.Ytjlbfojbgnhhbaa

/-
  Package object: what begins, Head, place, Field, Put, fits, setHead, Make and Final answer and leave.
-/
namespace Go.Proofs.Ytjlbfojbgnhhbaa
open Go.RowKit

section
variable {w0 : World} {F0 : List Nat} {hb : Nat} {ws : List Int} {kd : List PK} {ds : List (Int × List Int)}

set_option maxHeartbeats 800000 in
theorem obegins {sb tb : Nat} (a : Int) (w : World) (h : Has w0 F0 (rawA hb sb tb ws kd ds) w) (hw : WF kd) :
    Calls Try.prog 32 #[.pointer (some ⟨hb, 0, none⟩), .int .i64 a] w fun e w' => e = .returned (.bool (isAt kd a)) ∧ Keep [] w w' := by
  obtain ⟨c0, _⟩ := h.cells
  have HX := (show Hid (Has w0 F0 (rawA hb sb tb ws kd ds) w) from h)
  have HW := (show Hid (WF kd) from hw)
  clear h hw
  unfold isAt
  cases hf : findI kd a with
  | none =>
    have HF := (show Hid (findI kd a = none) from hf)
    clear hf
    go_enter Try.func32, Try.ntmps32
    go_wp2_with (first | (go_at_call 43; refine (xfind _ a HX.out HW.out).mono ?_; rw [HF.out]; simp only [foundV]; rintro e w1 ⟨rfl, hK1⟩))
    go_ret
    exact ⟨rfl, hK1⟩
  | some o =>
    obtain ⟨s, n⟩ := o
    have HF := (show Hid (findI kd a = some (s, n)) from hf)
    clear hf
    go_enter Try.func32, Try.ntmps32
    go_wp2_with (first | (go_at_call 43; refine (xfind _ a HX.out HW.out).mono ?_; rw [HF.out]; simp only [foundV]; rintro e w1 ⟨rfl, hK1⟩))
    go_ret
    exact ⟨rfl, hK1⟩
set_option maxHeartbeats 800000 in
theorem obegins_nil (a : Int) (w : World) :
    Calls Try.prog 32 #[.pointer none, .int .i64 a] w fun e w' => e = .returned (.bool false) ∧ w = w' := by
  go_enter Try.func32, Try.ntmps32
  go_wp2_with fail
  go_ret
  exact ⟨rfl, rfl⟩

/-- Head where there is none. -/
theorem ohead_none (pv : Option Addr) (a : Int) (w : World) (hc : ∀ w1, Keep [] w w1 → Calls Try.prog 32 #[.pointer pv, .int .i64 a] w1 fun e w' => e = .returned (.bool false) ∧ Keep [] w1 w') :
    Calls Try.prog 18 #[.pointer pv, .int .i64 a] w fun e w' => e = .returned (.tuple #[.agg #[.int .i64 0, .int .i64 0, .int .i64 0, .bool false], .int .i64 2]) ∧ Keep [] w w' := by
  have HC := (show Hid (∀ w1, Keep [] w w1 → Calls Try.prog 32 #[.pointer pv, .int .i64 a] w1 fun e w' => e = .returned (.bool false) ∧ Keep [] w1 w') from hc)
  have hK := Keep.alloc [] w (.cells #[.int .i64 0, .int .i64 0, .int .i64 0, .bool false] 43)
  have hx := heap_alloc_new w (.cells #[.int .i64 0, .int .i64 0, .int .i64 0, .bool false] 43)
  clear hc
  go_enter Try.func18, Try.ntmps18
  go_wp2_with (first | (go_at_call 32; refine (HC.out _ hK).mono ?_; rintro e w1 ⟨rfl, hK1⟩; have hx1 := hK1.blk hx (by simp); obtain ⟨f0, f1, f2, f3⟩ := four_free hx1; obtain ⟨d0, d1, d2, d3⟩ := four_cells hx1))
  obtain ⟨z, hk4⟩ := four_put hx1 (.int .i64 0) (.int .i64 0) (.int .i64 0) (.bool false)
  refine bodyPost_ret (results_cell_tmp_row rfl _ _ w.heap.size 43 #[.int .i64 0, .int .i64 0, .int .i64 0, .bool false] (0, 0) _ rfl z Try.underlying43 rfl (by kernel_rfl)) rfl ?_
  exact ⟨rfl, (((hK.trans hK1).mono (T := [w.heap.size]) (by simp)).trans hk4).drop (by simp)⟩

set_option maxRecDepth 100000 in
set_option maxHeartbeats 1600000 in
theorem ohead_yes {sb tb : Nat} (b m : Nat) (k c l : Int) (f : Bool) (w : World) (h : Has w0 F0 (rawA hb sb tb ws kd ds) w) (hw : WF kd) (hA : At kd ws b b m k c l f) :
    Calls Try.prog 18 #[.pointer (some ⟨hb, 0, none⟩), .int .i64 b] w fun e w' => e = .returned (.tuple #[.agg #[.int .i64 k, .int .i64 c, .int .i64 l, .bool f], .int .i64 0]) ∧ Keep [] w w' := by
  have HI := (show Hid (isAt kd (b : Int) = true) from isAt_yes hA)
  have hK := Keep.alloc [] w (.cells #[.int .i64 0, .int .i64 0, .int .i64 0, .bool false] 43)
  have hx := heap_alloc_new w (.cells #[.int .i64 0, .int .i64 0, .int .i64 0, .bool false] 43)
  have HX := (show Hid (Has w0 F0 (rawA hb sb tb ws kd ds) (w.alloc (.cells #[.int .i64 0, .int .i64 0, .int .i64 0, .bool false] 43))) from h.keep0 hK)
  have HW := (show Hid (WF kd) from hw)
  obtain ⟨_, e1, e2, e3, e4, e5⟩ := hA.facts hw
  have hlt : b < ws.length := by rw [h.cells.2.2.2.2]; omega
  obtain ⟨x, hx'⟩ : ∃ x, ws[b]?.getD 0 = x := ⟨_, rfl⟩
  have HV := (show Hid (ws[b]?.getD 0 = x) from hx')
  have hWd := hA.2.2
  rw [hx'] at hWd
  have HWD := (show Hid (Word x k c l f) from hWd)
  clear h hw hA hx' hWd e1 e2 e3 e4 e5
  go_enter Try.func18, Try.ntmps18
  go_wp2_with (first | (go_at_call 32; refine (obegins b _ HX.out HW.out).mono ?_; rw [HI.out]; rintro e w1 ⟨rfl, hK1⟩; have hx1 := hK1.blk hx (by simp); obtain ⟨c0, _, ⟨ab, ag, c2, hAr⟩, _, _⟩ := (HX.out.keep0 hK1).cells) | (go_at_call 33; refine (xload _ ab ag b hAr hlt).mono ?_; rw [HV.out]; rintro e w' ⟨rfl, rfl⟩) | (go_at_call 34; refine (hget_yes x k c l f _ HWD.out).mono ?_; rintro e w3 ⟨rfl, hK3⟩; have hx3 := (hK3.trans (Keep.alloc [] w3 (.cells #[.int .i64 k, .int .i64 c, .int .i64 l, .bool f] 43))).blk hx1 (by simp); have hy3 := heap_alloc_new w3 (.cells #[.int .i64 k, .int .i64 c, .int .i64 l, .bool f] 43); obtain ⟨f0, f1, f2, f3⟩ := four_free hx3; obtain ⟨d0, d1, d2, d3⟩ := four_cells hx3; obtain ⟨g0, g1, g2, g3⟩ := four_cells hy3; have hlw := lt_of_block hx1; have hne : w.heap.size ≠ w3.heap.size := (by have := hK3.size; omega)))
  obtain ⟨z, hk4⟩ := four_put hx3 (.int .i64 k) (.int .i64 c) (.int .i64 l) (.bool f)
  refine bodyPost_ret (results_cell_tmp_row rfl _ _ w.heap.size 43 #[.int .i64 k, .int .i64 c, .int .i64 l, .bool f] (0, 0) _ rfl z Try.underlying43 rfl (by kernel_rfl)) rfl ?_
  exact ⟨rfl, (((((hK.trans hK1).trans hK3).trans (Keep.alloc [] w3 _)).mono (T := [w.heap.size]) (by simp)).trans hk4).drop (by simp)⟩

theorem ohead (a k c l E : Int) (f : Bool) (w : World) (h : Has w0 F0 (heapA hb ws kd ds) w) (hT : HeadT kd ws a k c l f E) :
    Calls Try.prog 18 #[.pointer (some ⟨hb, 0, none⟩), .int .i64 a] w fun e w' => e = .returned (.tuple #[.agg #[.int .i64 k, .int .i64 c, .int .i64 l, .bool f], .int .i64 E]) ∧ Keep [] w w' := by
  obtain ⟨sb, tb, hr⟩ := h.raw
  have hw := h.fine.wf
  cases hT with
  | no hn =>
    refine ohead_none _ a w (fun w1 K => ?_)
    have := obegins a w1 (hr.keep0 K) hw
    rw [isAt_no hn] at this
    exact this
  | yes b m k c l f hA =>
    obtain ⟨rfl, _⟩ := hA.facts hw
    exact ohead_yes b m k c l f w hr hw hA
theorem ohead_nil (a : Int) (w : World) :
    Calls Try.prog 18 #[.pointer none, .int .i64 a] w fun e w' => e = .returned (.tuple #[.agg #[.int .i64 0, .int .i64 0, .int .i64 0, .bool false], .int .i64 2]) ∧ Keep [] w w' :=
  ohead_none none a w (fun w1 _ => (obegins_nil a w1).mono (by rintro e w' ⟨rfl, rfl⟩; exact ⟨rfl, Keep.refl _ _⟩))

/-! ### Fields -/
set_option maxRecDepth 100000 in
set_option maxHeartbeats 1600000 in
theorem oplace_head (pv : Option Addr) (a i : Int) (k c l E : Int) (f : Bool) (w : World) (hc : Calls Try.prog 18 #[.pointer pv, .int .i64 a] w fun e w' => e = .returned (.tuple #[.agg #[.int .i64 k, .int .i64 c, .int .i64 l, .bool f], .int .i64 E]) ∧ Keep [] w w') (hE : E ≠ 0) :
    Calls Try.prog 30 #[.pointer pv, .int .i64 a, .int .i64 i] w fun e w' => e = .returned (.tuple #[.int .i64 0, .int .i64 E]) ∧ Keep [] w w' := by
  have HC := (show Hid (Calls Try.prog 18 #[.pointer pv, .int .i64 a] w fun e w' => e = .returned (.tuple #[.agg #[.int .i64 k, .int .i64 c, .int .i64 l, .bool f], .int .i64 E]) ∧ Keep [] w w') from hc)
  have hd : (E == 0) = false := by simpa using hE
  clear hc
  go_enter Try.func30, Try.ntmps30
  go_wp2_with (first | (go_at_call 18; refine HC.out.mono ?_; rintro e w1 ⟨rfl, hK1⟩))
  go_ret2
  exact ⟨rfl, hK1.trans (Keep.alloc [] _ _)⟩
set_option maxRecDepth 100000 in
set_option maxHeartbeats 1600000 in
theorem oplace_arg (pv : Option Addr) (a i : Int) (k c l : Int) (f : Bool) (w : World) (hc : Calls Try.prog 18 #[.pointer pv, .int .i64 a] w fun e w' => e = .returned (.tuple #[.agg #[.int .i64 k, .int .i64 c, .int .i64 l, .bool f], .int .i64 0]) ∧ Keep [] w w') (hi : ¬ (0 ≤ i ∧ i < l)) :
    Calls Try.prog 30 #[.pointer pv, .int .i64 a, .int .i64 i] w fun e w' => e = .returned (.tuple #[.int .i64 0, .int .i64 1]) ∧ Keep [] w w' := by
  have HC := (show Hid (Calls Try.prog 18 #[.pointer pv, .int .i64 a] w fun e w' => e = .returned (.tuple #[.agg #[.int .i64 k, .int .i64 c, .int .i64 l, .bool f], .int .i64 0]) ∧ Keep [] w w') from hc)
  clear hc
  by_cases h0 : i < 0
  · go_enter Try.func30, Try.ntmps30
    go_wp2_with (first | (go_at_call 18; refine HC.out.mono ?_; rintro e w1 ⟨rfl, hK1⟩))
    go_ret2
    exact ⟨rfl, hK1.trans (Keep.alloc [] _ _)⟩
  · have h1 : l ≤ i := by omega
    clear hi
    go_enter Try.func30, Try.ntmps30
    go_wp2_with (first | (go_at_call 18; refine HC.out.mono ?_; rintro e w1 ⟨rfl, hK1⟩; have hy := heap_alloc_new w1 (.cells #[.int .i64 k, .int .i64 c, .int .i64 l, .bool f] 43); obtain ⟨g0, g1, g2, g3⟩ := four_cells hy))
    go_ret2
    exact ⟨rfl, hK1.trans (Keep.alloc [] _ _)⟩
set_option maxRecDepth 100000 in
set_option maxHeartbeats 1600000 in
theorem oplace_yes (pv : Option Addr) (b j : Nat) (k c l : Int) (f : Bool) (w : World) (hc : Calls Try.prog 18 #[.pointer pv, .int .i64 b] w fun e w' => e = .returned (.tuple #[.agg #[.int .i64 k, .int .i64 c, .int .i64 l, .bool f], .int .i64 0]) ∧ Keep [] w w') (hj : (j : Int) < l) (hb : b ≤ 20000) (hl : l ≤ 1023) :
    Calls Try.prog 30 #[.pointer pv, .int .i64 b, .int .i64 j] w fun e w' => e = .returned (.tuple #[.int .i64 ((b + 1 + j : Nat) : Int), .int .i64 0]) ∧ Keep [] w w' := by
  have HC := (show Hid (Calls Try.prog 18 #[.pointer pv, .int .i64 b] w fun e w' => e = .returned (.tuple #[.agg #[.int .i64 k, .int .i64 c, .int .i64 l, .bool f], .int .i64 0]) ∧ Keep [] w w') from hc)
  have hd : decide (l ≤ (j : Int)) = false := by rw [decide_eq_false_iff_not]; omega
  have hd0 : decide ((j : Int) < 0) = false := by rw [decide_eq_false_iff_not]; omega
  clear hc
  go_enter Try.func30, Try.ntmps30
  go_wp2_with (first | (go_at_call 18; refine HC.out.mono ?_; rintro e w1 ⟨rfl, hK1⟩; have hy := heap_alloc_new w1 (.cells #[.int .i64 k, .int .i64 c, .int .i64 l, .bool f] 43); obtain ⟨g0, g1, g2, g3⟩ := four_cells hy))
  go_ret2
  exact ⟨by go_num, hK1.trans (Keep.alloc [] _ _)⟩
theorem oplace (a i : Int) (p : Nat) (E : Int) (w : World) (h : Has w0 F0 (heapA hb ws kd ds) w) (hT : PlaceT kd ws a i p E) :
    Calls Try.prog 30 #[.pointer (some ⟨hb, 0, none⟩), .int .i64 a, .int .i64 i] w fun e w' => e = .returned (.tuple #[.int .i64 p, .int .i64 E]) ∧ Keep [] w w' := by
  cases hT with
  | none hn => exact oplace_head _ a i _ _ _ _ _ w (ohead a _ _ _ _ _ w h (.no hn)) (by omega)
  | arg b m k c l f hA hi => exact oplace_arg _ a i _ _ _ _ w (ohead a _ _ _ _ _ w h (.yes b m k c l f hA)) hi
  | yes b m j k c l f hA e hj hl =>
    obtain ⟨rfl, e1, e2, e3, e4, e5⟩ := hA.facts h.fine.wf
    subst e
    have := hA.2.2.bd
    exact oplace_yes _ b j k c l f w (ohead b _ _ _ _ _ w h (.yes b m k c l f hA)) hj (by omega) (by omega)

set_option maxHeartbeats 1600000 in
theorem ofield_no (pv : Option Addr) (a i E : Int) (w : World) (hc : Calls Try.prog 30 #[.pointer pv, .int .i64 a, .int .i64 i] w fun e w' => e = .returned (.tuple #[.int .i64 0, .int .i64 E]) ∧ Keep [] w w') (hE : E ≠ 0) :
    Calls Try.prog 19 #[.pointer pv, .int .i64 a, .int .i64 i] w fun e w' => e = .returned (.tuple #[.int .i64 0, .int .i64 E]) ∧ Keep [] w w' := by
  have HC := (show Hid (Calls Try.prog 30 #[.pointer pv, .int .i64 a, .int .i64 i] w fun e w' => e = .returned (.tuple #[.int .i64 0, .int .i64 E]) ∧ Keep [] w w') from hc)
  have hd : (E == 0) = false := by simpa using hE
  clear hc
  go_enter Try.func19, Try.ntmps19
  go_wp2_with (first | (go_at_call 30; refine HC.out.mono ?_; rintro e w1 ⟨rfl, hK1⟩))
  go_ret2
  exact ⟨rfl, hK1⟩
set_option maxHeartbeats 1600000 in
theorem ofield (a i N E : Int) (w : World) (h : Has w0 F0 (heapA hb ws kd ds) w) (hT : FieldT kd ws a i N E) :
    Calls Try.prog 19 #[.pointer (some ⟨hb, 0, none⟩), .int .i64 a, .int .i64 i] w fun e w' => e = .returned (.tuple #[.int .i64 N, .int .i64 E]) ∧ Keep [] w w' := by
  cases hT with
  | no E hp hE => exact ofield_no _ a i E w (oplace a i 0 E w h hp) (by omega)
  | yes p hp hlt =>
    obtain ⟨sb, tb, hr⟩ := h.raw
    have HC := (show Hid (Calls Try.prog 30 #[.pointer (some ⟨hb, 0, none⟩), .int .i64 a, .int .i64 i] w fun e w' => e = .returned (.tuple #[.int .i64 p, .int .i64 0]) ∧ Keep [] w w') from oplace a i p 0 w h hp)
    have HR := (show Hid (Has w0 F0 (rawA hb sb tb ws kd ds) w) from hr)
    obtain ⟨x, hx'⟩ : ∃ x, ws[p]?.getD 0 = x := ⟨_, rfl⟩
    have HV := (show Hid (ws[p]?.getD 0 = x) from hx')
    rw [hx']
    clear hr h hp hx'
    go_enter Try.func19, Try.ntmps19
    go_wp2_with (first | (go_at_call 30; refine HC.out.mono ?_; rintro e w1 ⟨rfl, hK1⟩; obtain ⟨c0, _, ⟨ab, ag, c2, hAr⟩, _, _⟩ := (HR.out.keep0 hK1).cells) | (go_at_call 33; refine (xload _ ab ag p hAr hlt).mono ?_; rw [HV.out]; rintro e w' ⟨rfl, rfl⟩))
    go_ret2
    exact ⟨rfl, hK1⟩
set_option maxHeartbeats 1600000 in
theorem oput_no (pv : Option Addr) (a i x E : Int) (w : World) (hc : Calls Try.prog 30 #[.pointer pv, .int .i64 a, .int .i64 i] w fun e w' => e = .returned (.tuple #[.int .i64 0, .int .i64 E]) ∧ Keep [] w w') (hE : E ≠ 0) :
    Calls Try.prog 17 #[.pointer pv, .int .i64 a, .int .i64 i, .int .i64 x] w fun e w' => e = .returned (.int .i64 E) ∧ Keep [] w w' := by
  have HC := (show Hid (Calls Try.prog 30 #[.pointer pv, .int .i64 a, .int .i64 i] w fun e w' => e = .returned (.tuple #[.int .i64 0, .int .i64 E]) ∧ Keep [] w w') from hc)
  have hd : (E == 0) = false := by simpa using hE
  clear hc
  go_enter Try.func17, Try.ntmps17
  go_wp2_with (first | (go_at_call 30; refine HC.out.mono ?_; rintro e w1 ⟨rfl, hK1⟩))
  go_ret
  exact ⟨rfl, hK1⟩
set_option maxHeartbeats 1600000 in
theorem oput (a i x E : Int) (ws' : List Int) (w : World) (h : Has w0 F0 (heapA hb ws kd ds) w) (hT : PutT kd ws a i x E ws') (hx : inI x) :
    Calls Try.prog 17 #[.pointer (some ⟨hb, 0, none⟩), .int .i64 a, .int .i64 i, .int .i64 x] w fun e w' => e = .returned (.int .i64 E) ∧ Has w0 F0 (heapA hb ws' kd ds) w' := by
  have hfin := hT.fine h.fine hx
  cases hT with
  | no E hp hE =>
    refine (oput_no _ a i x E w (oplace a i 0 E w h hp) (by omega)).mono ?_
    rintro e w' ⟨rfl, hK⟩
    exact ⟨rfl, h.keep0 hK⟩
  | yes p hp hlt =>
    obtain ⟨sb, tb, hr⟩ := h.raw
    have HC := (show Hid (Calls Try.prog 30 #[.pointer (some ⟨hb, 0, none⟩), .int .i64 a, .int .i64 i] w fun e w' => e = .returned (.tuple #[.int .i64 p, .int .i64 0]) ∧ Keep [] w w') from oplace a i p 0 w h hp)
    have HR := (show Hid (Has w0 F0 (rawA hb sb tb ws kd ds) w) from hr)
    have HFI := (show Hid (Fine (ws.set p x) kd ds) from hfin)
    clear hr h hp hfin hx
    go_enter Try.func17, Try.ntmps17
    go_wp2_with (first | (go_at_call 30; refine HC.out.mono ?_; rintro e w1 ⟨rfl, hK1⟩; obtain ⟨c0, _, ⟨ab, ag, c2, hAr⟩, _, _⟩ := (HR.out.keep0 hK1).cells) | (go_at_call 31; refine (xstore _ ab p x (HR.out.keep0 hK1) c2 hlt).mono ?_; rintro e w2 ⟨rfl, hH2⟩))
    go_ret
    exact ⟨rfl, hH2.heap HFI.out⟩

/-! ### Heads -/
set_option maxHeartbeats 1600000 in
theorem osethead {sb tb : Nat} (b : Nat) (k c l : Int) (f : Bool) (w : World) (h : Has w0 F0 (rawA hb sb tb ws kd ds) w) (hm : mayH k c l f = true) (hlt : b < ws.length) :
    Calls Try.prog 40 #[.pointer (some ⟨hb, 0, none⟩), .int .i64 b, .agg #[.int .i64 k, .int .i64 c, .int .i64 l, .bool f]] w fun e w' => e = .returned (.int .i64 0) ∧ Has w0 F0 (rawA hb sb tb (ws.set b (putH k c l f)) kd ds) w' := by
  have hK := Keep.alloc [] w (.cells #[.int .i64 k, .int .i64 c, .int .i64 l, .bool f] 43)
  have hx := heap_alloc_new w (.cells #[.int .i64 k, .int .i64 c, .int .i64 l, .bool f] 43)
  obtain ⟨g0, g1, g2, g3⟩ := four_cells hx
  have HX := (show Hid (Has w0 F0 (rawA hb sb tb ws kd ds) (w.alloc (.cells #[.int .i64 k, .int .i64 c, .int .i64 l, .bool f] 43))) from h.keep0 hK)
  have HM := (show Hid (mayH k c l f = true) from hm)
  obtain ⟨x, hx'⟩ : ∃ x, putH k c l f = x := ⟨_, rfl⟩
  have HP := (show Hid (putN k c l f = x) from by show _ = _; unfold putN; rw [if_pos hm]; exact hx')
  rw [hx']
  clear h hm hx'
  go_enter Try.func40, Try.ntmps40
  go_wp2_with (first | (go_at_call 51; refine (hput_any k c l f _).mono ?_; rw [HP.out, HM.out]; rintro e w1 ⟨rfl, hK1⟩; obtain ⟨c0, _, ⟨ab, ag, c2, hAr⟩, _, _⟩ := (HX.out.keep0 hK1).cells) | (go_at_call 31; refine (xstore _ ab b x (HX.out.keep0 hK1) c2 hlt).mono ?_; rintro e w2 ⟨rfl, hH2⟩))
  go_ret
  exact ⟨rfl, hH2⟩

end

end Go.Proofs.Ytjlbfojbgnhhbaa

/-
  Package object: what fits, Make, Final and New answer and leave.
-/
namespace Go.Proofs.Ytjlbfojbgnhhbaa
open Go.RowKit

theorem two_cells {w : World} {b : Nat} {t : TypeId} {a0 a1 : Value} (h : w.heap[b]? = some (.cells #[a0, a1] t (0, 0))) : w.cell? ⟨b, 0, none⟩ = some a0 ∧ w.cell? ⟨b, 1, none⟩ = some a1 := by
  refine ⟨?_, ?_⟩ <;> simp [World.cell?, h]
theorem two_free {w : World} {b : Nat} {t : TypeId} {a0 a1 : Value} (h : w.heap[b]? = some (.cells #[a0, a1] t (0, 0))) : w.frozen? ⟨b, 0, none⟩ = false ∧ w.frozen? ⟨b, 1, none⟩ = false := by
  refine ⟨?_, ?_⟩ <;> simp [World.frozen?, h]
theorem two_put {w : World} {b : Nat} {t : TypeId} {a0 a1 : Value} (h : w.heap[b]? = some (.cells #[a0, a1] t (0, 0))) (b0 b1 : Value) :
    ((w.setCell ⟨b, 0, none⟩ b0).setCell ⟨b, 1, none⟩ b1).heap[b]? = some (.cells #[b0, b1] t (0, 0)) ∧ Keep [b] w ((w.setCell ⟨b, 0, none⟩ b0).setCell ⟨b, 1, none⟩ b1) := by
  have z1 := heap_setCell_same w b 0 _ _ b0 h
  have z2 := heap_setCell_same _ b 1 _ _ b1 z1
  exact ⟨by simpa using z2, (Keep.setCell _ _ (by simp)).trans (Keep.setCell _ _ (by simp))⟩
section
variable {w0 : World} {F0 : List Nat} {hb : Nat} {ws : List Int} {kd : List PK} {ds : List (Int × List Int)}

set_option maxHeartbeats 1600000 in
theorem ofits_other (pv : Option Addr) (k c l : Int) (f : Bool) (w : World) (hk : k ≠ 1) :
    Calls Try.prog 38 #[.pointer pv, .agg #[.int .i64 k, .int .i64 c, .int .i64 l, .bool f]] w fun e w' => e = .returned (.int .i64 0) ∧ Keep [] w w' := by
  have hd : (k == 1) = false := by simpa using hk
  have hx := heap_alloc_new w (.cells #[.int .i64 k, .int .i64 c, .int .i64 l, .bool f] 43)
  obtain ⟨g0, g1, g2, g3⟩ := four_cells hx
  go_enter Try.func38, Try.ntmps38
  go_wp2_with fail
  go_ret
  exact ⟨rfl, Keep.alloc [] _ _⟩
set_option maxRecDepth 100000 in
set_option maxHeartbeats 1600000 in
theorem ofits_none {sb tb : Nat} (c l : Int) (f : Bool) (w : World) (h : Has w0 F0 (rawA hb sb tb ws kd ds) w) (hc : c < 1 ∨ (ds.length : Int) < c) :
    Calls Try.prog 38 #[.pointer (some ⟨hb, 0, none⟩), .agg #[.int .i64 1, .int .i64 c, .int .i64 l, .bool f]] w fun e w' => e = .returned (.int .i64 2) ∧ Keep [] w w' := by
  have hK := Keep.alloc [] w (.cells #[.int .i64 1, .int .i64 c, .int .i64 l, .bool f] 43)
  have hx := heap_alloc_new w (.cells #[.int .i64 1, .int .i64 c, .int .i64 l, .bool f] 43)
  have h1 := h.keep0 hK
  clear h
  obtain ⟨g0, g1, g2, g3⟩ := four_cells hx
  go_enter Try.func38, Try.ntmps38
  go_upto_region 3 with fail
  generalize w.alloc (.cells #[.int .i64 1, .int .i64 c, .int .i64 l, .bool f] 43) = w1 at *
  obtain ⟨c0, c1, _⟩ := h1.cells
  obtain ⟨F, hT⟩ := h1.tab
  have HT := (show Hid (∀ w', Keep [] w1 w' → IsTab w' tb F ds) from fun w' K => hT.keep K (by simp))
  have hKz := (Keep.alloc [] w1 (.cells #[.int .i64 0, .slice none 0 0] 99)).trans (Keep.drew [] _)
  obtain ⟨b0, b1, _⟩ := (h1.keep0 hKz).cells
  obtain ⟨d0, d1, d2, d3⟩ := four_cells (hKz.blk hx (by simp))
  have hn1 := World.new_ne _ _ c1
  have hn2 := World.new_ne _ _ g1
  clear h1 hT
  go_region_law (first | (go_simp; refine (tclass_no tb F ds c _ (HT.out _ (by first | exact Keep.drew [] _ | exact (Keep.alloc [] _ _).trans (Keep.drew [] _))) hc).mono ?_; rintro e w2 ⟨rfl, hK2⟩; have hKe : Keep [] w1 w2 := (by first | exact (Keep.drew [] _).trans hK2 | exact ((Keep.alloc [] _ _).trans (Keep.drew [] _)).trans hK2); obtain ⟨q0, q1, q2, q3⟩ := four_cells (hKe.blk hx (by simp)); have hn3 : w2.heap.size ≠ w.heap.size := World.new_ne _ _ q1; have hn4 := hn3.symm; try (have hz := hK2.blk (heap_alloc_new w1 (.cells #[.int .i64 0, .slice none 0 0] 99)) (by simp); obtain ⟨u0, u1⟩ := two_cells hz; obtain ⟨v0, v1⟩ := two_free hz)))
  all_goals first
    | (obtain ⟨hz1, hk4⟩ := two_put hz (.int .i64 0) (.slice none 0 0)
       have hxz := hk4.blk (hKe.blk hx (by simp)) (by simpa using hn2.symm)
       have hKf := hK.trans (((hKe.mono (T := [w1.heap.size]) (by simp)).trans hk4).drop (by simp))
       clear hk4 hz u0 u1 v0 v1
       generalize (w2.setCell ⟨w1.heap.size, 0, none⟩ (.int .i64 0)).setCell ⟨w1.heap.size, 1, none⟩ (.slice none 0 0) = wz at *)
    | (have hxz := (Keep.alloc [] w2 (.cells #[.int .i64 0, .slice none 0 0] 99)).blk (hKe.blk hx (by simp)) (by simp)
       have hz1 := heap_alloc_new w2 (.cells #[.int .i64 0, .slice none 0 0] 99)
       have hKf := (hK.trans hKe).trans (Keep.alloc [] w2 (.cells #[.int .i64 0, .slice none 0 0] 99))
       generalize w2.alloc (.cells #[.int .i64 0, .slice none 0 0] 99) = wz at *)
  all_goals (obtain ⟨r0, r1, r2, r3⟩ := four_cells hxz; obtain ⟨t0, t1⟩ := two_cells hz1; clear hxz hz1 q0 q1 q2 q3 hKe hK2)
  all_goals (go_wp2_with fail)
  all_goals go_ret
  all_goals exact ⟨rfl, hKf⟩
set_option maxRecDepth 100000 in
set_option maxHeartbeats 1600000 in
theorem ofits_arg {sb tb : Nat} (i : Nat) (c l n : Int) (f : Bool) (L : List Int) (w : World) (h : Has w0 F0 (rawA hb sb tb ws kd ds) w) (hc : c = (i : Int) + 1) (hi : ds[i]? = some (n, L)) (hl : ds.length ≤ 256) (hne : l ≠ n) :
    Calls Try.prog 38 #[.pointer (some ⟨hb, 0, none⟩), .agg #[.int .i64 1, .int .i64 c, .int .i64 l, .bool f]] w fun e w' => e = .returned (.int .i64 1) ∧ Keep [] w w' := by
  have HCI := (show Hid (c = (i : Int) + 1) from hc)
  have hd : (l == n) = false := by simpa using hne
  clear hc
  have hK := Keep.alloc [] w (.cells #[.int .i64 1, .int .i64 c, .int .i64 l, .bool f] 43)
  have hx := heap_alloc_new w (.cells #[.int .i64 1, .int .i64 c, .int .i64 l, .bool f] 43)
  have h1 := h.keep0 hK
  clear h
  obtain ⟨g0, g1, g2, g3⟩ := four_cells hx
  go_enter Try.func38, Try.ntmps38
  go_upto_region 3 with fail
  generalize w.alloc (.cells #[.int .i64 1, .int .i64 c, .int .i64 l, .bool f] 43) = w1 at *
  obtain ⟨c0, c1, _⟩ := h1.cells
  obtain ⟨F, hT⟩ := h1.tab
  have HT := (show Hid (∀ w', Keep [] w1 w' → IsTab w' tb F ds) from fun w' K => hT.keep K (by simp))
  have hKz := (Keep.alloc [] w1 (.cells #[.int .i64 0, .slice none 0 0] 99)).trans (Keep.drew [] _)
  obtain ⟨b0, b1, _⟩ := (h1.keep0 hKz).cells
  obtain ⟨d0, d1, d2, d3⟩ := four_cells (hKz.blk hx (by simp))
  have hn1 := World.new_ne _ _ c1
  have hn2 := World.new_ne _ _ g1
  clear h1 hT
  go_region_law (first | (go_simp; refine (tclass_at tb i F ds n c L _ (HT.out _ (by first | exact Keep.drew [] _ | exact (Keep.alloc [] _ _).trans (Keep.drew [] _))) hi (by omega) HCI.out).mono ?_; rintro e w2 ⟨la, lc, rfl, HG, hK2⟩; have hKe : Keep [] w1 w2 := (by first | exact (Keep.drew [] _).trans hK2 | exact ((Keep.alloc [] _ _).trans (Keep.drew [] _)).trans hK2); obtain ⟨q0, q1, q2, q3⟩ := four_cells (hKe.blk hx (by simp)); have hn3 : w2.heap.size ≠ w.heap.size := World.new_ne _ _ q1; have hn4 := hn3.symm; try (have hz := hK2.blk (heap_alloc_new w1 (.cells #[.int .i64 0, .slice none 0 0] 99)) (by simp); obtain ⟨u0, u1⟩ := two_cells hz; obtain ⟨v0, v1⟩ := two_free hz)))
  all_goals first
    | (obtain ⟨hz1, hk4⟩ := two_put hz (.int .i64 n) (.slice la L.length lc)
       have hxz := hk4.blk (hKe.blk hx (by simp)) (by simpa using hn2.symm)
       have hKf := hK.trans (((hKe.mono (T := [w1.heap.size]) (by simp)).trans hk4).drop (by simp))
       clear hk4 hz u0 u1 v0 v1
       generalize (w2.setCell ⟨w1.heap.size, 0, none⟩ (.int .i64 n)).setCell ⟨w1.heap.size, 1, none⟩ (.slice la L.length lc) = wz at *)
    | (have hxz := (Keep.alloc [] w2 (.cells #[.int .i64 n, .slice la L.length lc] 99)).blk (hKe.blk hx (by simp)) (by simp)
       have hz1 := heap_alloc_new w2 (.cells #[.int .i64 n, .slice la L.length lc] 99)
       have hKf := (hK.trans hKe).trans (Keep.alloc [] w2 (.cells #[.int .i64 n, .slice la L.length lc] 99))
       generalize w2.alloc (.cells #[.int .i64 n, .slice la L.length lc] 99) = wz at *)
  all_goals (obtain ⟨r0, r1, r2, r3⟩ := four_cells hxz; obtain ⟨t0, t1⟩ := two_cells hz1; clear hxz hz1 q0 q1 q2 q3 hKe hK2)
  all_goals (go_wp2_with fail)
  all_goals go_ret
  all_goals exact ⟨rfl, hKf⟩
set_option maxRecDepth 100000 in
set_option maxHeartbeats 1600000 in
theorem ofits_yes {sb tb : Nat} (i : Nat) (c l n : Int) (f : Bool) (L : List Int) (w : World) (h : Has w0 F0 (rawA hb sb tb ws kd ds) w) (hc : c = (i : Int) + 1) (hi : ds[i]? = some (n, L)) (hl : ds.length ≤ 256) (hne : l = n) :
    Calls Try.prog 38 #[.pointer (some ⟨hb, 0, none⟩), .agg #[.int .i64 1, .int .i64 c, .int .i64 l, .bool f]] w fun e w' => e = .returned (.int .i64 0) ∧ Keep [] w w' := by
  have HCI := (show Hid (c = (i : Int) + 1) from hc)
  subst hne
  clear hc
  have hK := Keep.alloc [] w (.cells #[.int .i64 1, .int .i64 c, .int .i64 l, .bool f] 43)
  have hx := heap_alloc_new w (.cells #[.int .i64 1, .int .i64 c, .int .i64 l, .bool f] 43)
  have h1 := h.keep0 hK
  clear h
  obtain ⟨g0, g1, g2, g3⟩ := four_cells hx
  go_enter Try.func38, Try.ntmps38
  go_upto_region 3 with fail
  generalize w.alloc (.cells #[.int .i64 1, .int .i64 c, .int .i64 l, .bool f] 43) = w1 at *
  obtain ⟨c0, c1, _⟩ := h1.cells
  obtain ⟨F, hT⟩ := h1.tab
  have HT := (show Hid (∀ w', Keep [] w1 w' → IsTab w' tb F ds) from fun w' K => hT.keep K (by simp))
  have hKz := (Keep.alloc [] w1 (.cells #[.int .i64 0, .slice none 0 0] 99)).trans (Keep.drew [] _)
  obtain ⟨b0, b1, _⟩ := (h1.keep0 hKz).cells
  obtain ⟨d0, d1, d2, d3⟩ := four_cells (hKz.blk hx (by simp))
  have hn1 := World.new_ne _ _ c1
  have hn2 := World.new_ne _ _ g1
  clear h1 hT
  go_region_law (first | (go_simp; refine (tclass_at tb i F ds l c L _ (HT.out _ (by first | exact Keep.drew [] _ | exact (Keep.alloc [] _ _).trans (Keep.drew [] _))) hi (by omega) HCI.out).mono ?_; rintro e w2 ⟨la, lc, rfl, HG, hK2⟩; have hKe : Keep [] w1 w2 := (by first | exact (Keep.drew [] _).trans hK2 | exact ((Keep.alloc [] _ _).trans (Keep.drew [] _)).trans hK2); obtain ⟨q0, q1, q2, q3⟩ := four_cells (hKe.blk hx (by simp)); have hn3 : w2.heap.size ≠ w.heap.size := World.new_ne _ _ q1; have hn4 := hn3.symm; try (have hz := hK2.blk (heap_alloc_new w1 (.cells #[.int .i64 0, .slice none 0 0] 99)) (by simp); obtain ⟨u0, u1⟩ := two_cells hz; obtain ⟨v0, v1⟩ := two_free hz)))
  all_goals first
    | (obtain ⟨hz1, hk4⟩ := two_put hz (.int .i64 l) (.slice la L.length lc)
       have hxz := hk4.blk (hKe.blk hx (by simp)) (by simpa using hn2.symm)
       have hKf := hK.trans (((hKe.mono (T := [w1.heap.size]) (by simp)).trans hk4).drop (by simp))
       clear hk4 hz u0 u1 v0 v1
       generalize (w2.setCell ⟨w1.heap.size, 0, none⟩ (.int .i64 l)).setCell ⟨w1.heap.size, 1, none⟩ (.slice la L.length lc) = wz at *)
    | (have hxz := (Keep.alloc [] w2 (.cells #[.int .i64 l, .slice la L.length lc] 99)).blk (hKe.blk hx (by simp)) (by simp)
       have hz1 := heap_alloc_new w2 (.cells #[.int .i64 l, .slice la L.length lc] 99)
       have hKf := (hK.trans hKe).trans (Keep.alloc [] w2 (.cells #[.int .i64 l, .slice la L.length lc] 99))
       generalize w2.alloc (.cells #[.int .i64 l, .slice la L.length lc] 99) = wz at *)
  all_goals (obtain ⟨r0, r1, r2, r3⟩ := four_cells hxz; obtain ⟨t0, t1⟩ := two_cells hz1; clear hxz hz1 q0 q1 q2 q3 hKe hK2)
  all_goals (go_wp2_with fail)
  all_goals go_ret
  all_goals exact ⟨rfl, hKf⟩
theorem ofits {sb tb : Nat} (k c l E : Int) (f : Bool) (w : World) (h : Has w0 F0 (rawA hb sb tb ws kd ds) w) (hT : FitsT ds k c l E) (hl : ds.length ≤ 256) :
    Calls Try.prog 38 #[.pointer (some ⟨hb, 0, none⟩), .agg #[.int .i64 k, .int .i64 c, .int .i64 l, .bool f]] w fun e w' => e = .returned (.int .i64 E) ∧ Keep [] w w' := by
  cases hT with
  | other hk => exact ofits_other _ k c l f w hk
  | none hk hc => subst hk; exact ofits_none c l f w h hc
  | arg i n L hk hc hi hne => subst hk; exact ofits_arg i c l n f L w h hc hi hl hne
  | yes i L hk hc hi => subst hk; exact ofits_yes i c l l f L w h hc hi hl rfl

/-! ### Make -/
set_option maxRecDepth 100000 in
set_option maxHeartbeats 1600000 in
theorem omake_nil (k c l : Int) (f : Bool) (w : World) :
    Calls Try.prog 22 #[.pointer none, .agg #[.int .i64 k, .int .i64 c, .int .i64 l, .bool f]] w fun e w' => e = .returned (.tuple #[.int .i64 0, .int .i64 2]) ∧ Keep [] w w' := by
  go_enter Try.func22, Try.ntmps22
  go_wp2_with fail
  go_ret2
  exact ⟨rfl, Keep.alloc [] _ _⟩
set_option maxRecDepth 100000 in
set_option maxHeartbeats 1600000 in
theorem omake_arg (k c l : Int) (f : Bool) (w : World) (hm : (mayH k c l f && !f) = false) :
    Calls Try.prog 22 #[.pointer (some ⟨hb, 0, none⟩), .agg #[.int .i64 k, .int .i64 c, .int .i64 l, .bool f]] w fun e w' => e = .returned (.tuple #[.int .i64 0, .int .i64 1]) ∧ Keep [] w w' := by
  have hK := Keep.alloc [] w (.cells #[.int .i64 k, .int .i64 c, .int .i64 l, .bool f] 43)
  have hx := heap_alloc_new w (.cells #[.int .i64 k, .int .i64 c, .int .i64 l, .bool f] 43)
  obtain ⟨g0, g1, g2, g3⟩ := four_cells hx
  cases hm1 : mayH k c l f
  · have HM := (show Hid (mayH k c l f = false) from hm1)
    clear hm hm1
    go_enter Try.func22, Try.ntmps22
    go_wp2_with (first | (go_at_call 37; refine (hmay_any k c l f _).mono ?_; rw [HM.out]; rintro e w1 ⟨rfl, hK1⟩))
    go_ret2
    exact ⟨rfl, hK.trans hK1⟩
  · cases f
    · rw [hm1] at hm; cases hm
    · have HM := (show Hid (mayH k c l true = true) from hm1)
      clear hm hm1
      go_enter Try.func22, Try.ntmps22
      go_wp2_with (first | (go_at_call 37; refine (hmay_any k c l true _).mono ?_; rw [HM.out]; rintro e w1 ⟨rfl, hK1⟩; obtain ⟨d0, d1, d2, d3⟩ := four_cells (hK1.blk hx (by simp))))
      go_ret2
      exact ⟨rfl, hK.trans hK1⟩
set_option maxRecDepth 100000 in
set_option maxHeartbeats 1600000 in
theorem omake_fits {sb tb : Nat} (k c l E : Int) (w : World) (h : Has w0 F0 (rawA hb sb tb ws kd ds) w) (hm : mayH k c l false = true) (hT : FitsT ds k c l E) (hE : E ≠ 0) (hl : ds.length ≤ 256) :
    Calls Try.prog 22 #[.pointer (some ⟨hb, 0, none⟩), .agg #[.int .i64 k, .int .i64 c, .int .i64 l, .bool false]] w fun e w' => e = .returned (.tuple #[.int .i64 0, .int .i64 E]) ∧ Keep [] w w' := by
  have hK := Keep.alloc [] w (.cells #[.int .i64 k, .int .i64 c, .int .i64 l, .bool false] 43)
  have hx := heap_alloc_new w (.cells #[.int .i64 k, .int .i64 c, .int .i64 l, .bool false] 43)
  obtain ⟨g0, g1, g2, g3⟩ := four_cells hx
  have HX := (show Hid (Has w0 F0 (rawA hb sb tb ws kd ds) (w.alloc (.cells #[.int .i64 k, .int .i64 c, .int .i64 l, .bool false] 43))) from h.keep0 hK)
  have HM := (show Hid (mayH k c l false = true) from hm)
  have HT := (show Hid (FitsT ds k c l E) from hT)
  have hd : (E == 0) = false := by simpa using hE
  clear hm h hT
  go_enter Try.func22, Try.ntmps22
  go_wp2_with (first | (go_at_call 37; refine (hmay_any k c l false _).mono ?_; rw [HM.out]; rintro e w1 ⟨rfl, hK1⟩; obtain ⟨d0, d1, d2, d3⟩ := four_cells (hK1.blk hx (by simp))) | (go_at_call 38; refine (ofits k c l E false _ (HX.out.keep0 hK1) HT.out hl).mono ?_; rintro e w2 ⟨rfl, hK2⟩))
  go_ret2
  exact ⟨rfl, (hK.trans hK1).trans hK2⟩

end

end Go.Proofs.Ytjlbfojbgnhhbaa

/-
  Package object: what Make, Final and New answer and leave.
-/
namespace Go.Proofs.Ytjlbfojbgnhhbaa
open Go.RowKit

section
variable {w0 : World} {F0 : List Nat} {hb : Nat} {ws : List Int} {kd : List PK} {ds : List (Int × List Int)}

set_option maxRecDepth 100000 in
set_option maxHeartbeats 1600000 in
theorem omake_full {sb tb : Nat} (k c l : Int) (w : World) (h : Has w0 F0 (rawA hb sb tb ws kd ds) w) (hw : WF kd) (hm : mayH k c l false = true) (hT : FitsT ds k c l 0) (hl : ds.length ≤ 256) (hr : AllocT kd ws (l + 1) 0 3 ws kd) :
    Calls Try.prog 22 #[.pointer (some ⟨hb, 0, none⟩), .agg #[.int .i64 k, .int .i64 c, .int .i64 l, .bool false]] w fun e w' => e = .returned (.tuple #[.int .i64 0, .int .i64 3]) ∧ Has w0 F0 (rawA hb sb tb ws kd ds) w' := by
  have hK := Keep.alloc [] w (.cells #[.int .i64 k, .int .i64 c, .int .i64 l, .bool false] 43)
  have hx := heap_alloc_new w (.cells #[.int .i64 k, .int .i64 c, .int .i64 l, .bool false] 43)
  obtain ⟨g0, g1, g2, g3⟩ := four_cells hx
  have HX := (show Hid (Has w0 F0 ((rawA hb sb tb ws kd ds).star (blockA w.heap.size (.cells #[.int .i64 k, .int .i64 c, .int .i64 l, .bool false] 43))) (w.alloc (.cells #[.int .i64 k, .int .i64 c, .int .i64 l, .bool false] 43))) from h.more hK ⟨rfl, hx⟩ (fun k hk => by simp at hk; omega))
  have HM := (show Hid (mayH k c l false = true) from hm)
  have HT := (show Hid (FitsT ds k c l 0) from hT)
  have hbd := mayH_bd hm
  have HR := (show Hid (AllocT kd ws (l + 1) 0 3 ws kd) from hr)
  have HWR := (show Hid (IntKind.i64.wrap (l + 1) = l + 1) from IntWalk.i64_in _ (by omega))
  clear hm h hT hr
  go_enter Try.func22, Try.ntmps22
  go_wp2_with (first | (go_at_call 37; refine (hmay_any k c l false _).mono ?_; rw [HM.out]; rintro e w1 ⟨rfl, hK1⟩; have hx1 := hK1.blk hx (by simp); obtain ⟨d0, d1, d2, d3⟩ := four_cells hx1) | (go_at_call 38; refine (ofits k c l 0 false _ (HX.out.fst.keep0 hK1) HT.out hl).mono ?_; rintro e w2 ⟨rfl, hK2⟩))
  have hx2 := hK2.blk hx1 (by simp)
  have hX2 := ((HX.out.keep0 hK1).keep0 hK2).keep0 (Keep.drew [] w2)
  obtain ⟨b0, b1, _⟩ := hX2.fst.cells
  have HX2 := (show Hid (Has w0 F0 ((rawA hb sb tb ws kd ds).star (blockA w.heap.size (.cells #[.int .i64 k, .int .i64 c, .int .i64 l, .bool false] 43))) w2.drew) from hX2)
  obtain ⟨p0, p1, p2, p3⟩ := four_cells ((Keep.drew [] w2).blk hx2 (by simp))
  clear hX2 hx hx1 hx2 hK hK1 hK2 d0 d1 d2 d3 g0 g1 g2 g3
  go_region_held3 (fun wz => wz.cell? ⟨hb, 0, none⟩ = some (.pointer (some ⟨sb, 0, none⟩)) ∧ wz.cell? ⟨w.heap.size, 2, none⟩ = some (.int .i64 l)) (go_keep) (first | (go_at_call 39; rw [HWR.out]; refine (has_left HX2.out (fun F hF => xalloc _ (l + 1) 0 3 ws kd hF hw HR.out)).mono ?_; rintro e w3 ⟨rfl, hX3⟩; have HX3 := (show Hid (Has w0 F0 ((rawA hb sb tb ws kd ds).star (blockA w.heap.size (.cells #[.int .i64 k, .int .i64 c, .int .i64 l, .bool false] 43))) w3) from hX3); obtain ⟨u0, u1, _⟩ := hX3.fst.cells; obtain ⟨v0, v1, v2, v3⟩ := four_cells (hX3.snd.fact (fun _ h => h.2)); clear hX3))
  go_wp2_with fail
  go_ret2
  exact ⟨rfl, HX3.out.fst⟩
set_option maxRecDepth 100000 in
set_option maxHeartbeats 1600000 in
theorem omake_yes {sb tb : Nat} (k c l : Int) (a : Nat) (ws' : List Int) (kd' : List PK) (w : World) (h : Has w0 F0 (rawA hb sb tb ws kd ds) w) (hw : WF kd) (hm : mayH k c l false = true) (hT : FitsT ds k c l 0) (hl : ds.length ≤ 256) (hr : AllocT kd ws (l + 1) a 0 ws' kd') (hlt : a < ws'.length) :
    Calls Try.prog 22 #[.pointer (some ⟨hb, 0, none⟩), .agg #[.int .i64 k, .int .i64 c, .int .i64 l, .bool false]] w fun e w' => e = .returned (.tuple #[.int .i64 a, .int .i64 0]) ∧ Has w0 F0 (rawA hb sb tb (ws'.set a (putH k c l false)) kd' ds) w' := by
  have hK := Keep.alloc [] w (.cells #[.int .i64 k, .int .i64 c, .int .i64 l, .bool false] 43)
  have hx := heap_alloc_new w (.cells #[.int .i64 k, .int .i64 c, .int .i64 l, .bool false] 43)
  obtain ⟨g0, g1, g2, g3⟩ := four_cells hx
  have HX := (show Hid (Has w0 F0 ((rawA hb sb tb ws kd ds).star (blockA w.heap.size (.cells #[.int .i64 k, .int .i64 c, .int .i64 l, .bool false] 43))) (w.alloc (.cells #[.int .i64 k, .int .i64 c, .int .i64 l, .bool false] 43))) from h.more hK ⟨rfl, hx⟩ (fun k hk => by simp at hk; omega))
  have HM := (show Hid (mayH k c l false = true) from hm)
  have HT := (show Hid (FitsT ds k c l 0) from hT)
  have hbd := mayH_bd hm
  have HR := (show Hid (AllocT kd ws (l + 1) a 0 ws' kd') from hr)
  have HWR := (show Hid (IntKind.i64.wrap (l + 1) = l + 1) from IntWalk.i64_in _ (by omega))
  clear hm h hT hr
  go_enter Try.func22, Try.ntmps22
  go_wp2_with (first | (go_at_call 37; refine (hmay_any k c l false _).mono ?_; rw [HM.out]; rintro e w1 ⟨rfl, hK1⟩; have hx1 := hK1.blk hx (by simp); obtain ⟨d0, d1, d2, d3⟩ := four_cells hx1) | (go_at_call 38; refine (ofits k c l 0 false _ (HX.out.fst.keep0 hK1) HT.out hl).mono ?_; rintro e w2 ⟨rfl, hK2⟩))
  have hx2 := hK2.blk hx1 (by simp)
  have hX2 := ((HX.out.keep0 hK1).keep0 hK2).keep0 (Keep.drew [] w2)
  obtain ⟨b0, b1, _⟩ := hX2.fst.cells
  have HX2 := (show Hid (Has w0 F0 ((rawA hb sb tb ws kd ds).star (blockA w.heap.size (.cells #[.int .i64 k, .int .i64 c, .int .i64 l, .bool false] 43))) w2.drew) from hX2)
  obtain ⟨p0, p1, p2, p3⟩ := four_cells ((Keep.drew [] w2).blk hx2 (by simp))
  clear hX2 hx hx1 hx2 hK hK1 hK2 d0 d1 d2 d3 g0 g1 g2 g3
  go_region_held3 (fun wz => wz.cell? ⟨hb, 0, none⟩ = some (.pointer (some ⟨sb, 0, none⟩)) ∧ wz.cell? ⟨w.heap.size, 2, none⟩ = some (.int .i64 l)) (go_keep) (first | (go_at_call 39; rw [HWR.out]; refine (has_left HX2.out (fun F hF => xalloc _ (l + 1) a 0 ws' kd' hF hw HR.out)).mono ?_; rintro e w3 ⟨rfl, hX3⟩; have HX3 := (show Hid (Has w0 F0 ((rawA hb sb tb ws' kd' ds).star (blockA w.heap.size (.cells #[.int .i64 k, .int .i64 c, .int .i64 l, .bool false] 43))) w3) from hX3); obtain ⟨u0, u1, _⟩ := hX3.fst.cells; obtain ⟨v0, v1, v2, v3⟩ := four_cells (hX3.snd.fact (fun _ h => h.2)); clear hX3))
  go_wp2_with (first | (go_at_call 40; refine (osethead a k c l false _ HX3.out.fst HM.out hlt).mono ?_; rintro e w4 ⟨rfl, hX4⟩))
  go_ret2
  exact ⟨rfl, hX4⟩
theorem omake (k c l N E : Int) (f : Bool) (ws' : List Int) (kd' : List PK) (w : World) (h : Has w0 F0 (heapA hb ws kd ds) w) (hT : MakeT kd ws ds k c l f N E ws' kd') :
    Calls Try.prog 22 #[.pointer (some ⟨hb, 0, none⟩), .agg #[.int .i64 k, .int .i64 c, .int .i64 l, .bool f]] w fun e w' => e = .returned (.tuple #[.int .i64 N, .int .i64 E]) ∧ Has w0 F0 (heapA hb ws' kd' ds) w' := by
  have hf := h.fine
  have hf' := (hT.fine hf).1
  obtain ⟨sb, tb, hr⟩ := h.raw
  cases hT with
  | arg hm => exact has_same h (omake_arg k c l f w hm)
  | fits E hm e hF hE => subst e; exact has_same h (omake_fits k c l E w hr hm hF hE hf.few)
  | full hm e hF hA =>
    subst e
    refine (omake_full k c l w hr hf.wf hm hF hf.few (.no (by have := mayH_bd hm; have := room_ge (l + 1) (by omega) (by omega); omega) hA)).mono ?_
    rintro e w' ⟨rfl, hX⟩
    exact ⟨rfl, hX.heap hf⟩
  | yes a b kd' hm e hF hA hb' =>
    subst e
    obtain ⟨b', hb2, h1, h2, h3, h4, h5, _⟩ := hA.spec hf.wf
    have hl := hf.len
    refine (omake_yes k c l a _ kd' w hr hf.wf hm hF hf.few (.yes a b kd' hA hb') ?_).mono ?_
    · rw [fill0_length _ _ _ (by omega)]; omega
    · rintro e w' ⟨rfl, hX⟩
      exact ⟨rfl, hX.heap hf'⟩

/-! ### Final -/
set_option maxHeartbeats 1600000 in
theorem ofinal_no (pv : Option Addr) (a k c l E : Int) (f : Bool) (w : World) (hc : Calls Try.prog 18 #[.pointer pv, .int .i64 a] w fun e w' => e = .returned (.tuple #[.agg #[.int .i64 k, .int .i64 c, .int .i64 l, .bool f], .int .i64 E]) ∧ Keep [] w w') (hE : E ≠ 0) :
    Calls Try.prog 23 #[.pointer pv, .int .i64 a] w fun e w' => e = .returned (.int .i64 E) ∧ Keep [] w w' := by
  have HC := (show Hid (Calls Try.prog 18 #[.pointer pv, .int .i64 a] w fun e w' => e = .returned (.tuple #[.agg #[.int .i64 k, .int .i64 c, .int .i64 l, .bool f], .int .i64 E]) ∧ Keep [] w w') from hc)
  have hd : (E == 0) = false := by simpa using hE
  clear hc
  go_enter Try.func23, Try.ntmps23
  go_wp2_with (first | (go_at_call 18; refine HC.out.mono ?_; rintro e w1 ⟨rfl, hK1⟩))
  go_ret
  exact ⟨rfl, hK1.trans (Keep.alloc [] _ _)⟩
set_option maxHeartbeats 1600000 in
theorem ofinal_kind (pv : Option Addr) (a c l : Int) (f : Bool) (w : World) (hc : Calls Try.prog 18 #[.pointer pv, .int .i64 a] w fun e w' => e = .returned (.tuple #[.agg #[.int .i64 4, .int .i64 c, .int .i64 l, .bool f], .int .i64 0]) ∧ Keep [] w w') :
    Calls Try.prog 23 #[.pointer pv, .int .i64 a] w fun e w' => e = .returned (.int .i64 5) ∧ Keep [] w w' := by
  have HC := (show Hid (Calls Try.prog 18 #[.pointer pv, .int .i64 a] w fun e w' => e = .returned (.tuple #[.agg #[.int .i64 4, .int .i64 c, .int .i64 l, .bool f], .int .i64 0]) ∧ Keep [] w w') from hc)
  clear hc
  go_enter Try.func23, Try.ntmps23
  go_wp2_with (first | (go_at_call 18; refine HC.out.mono ?_; rintro e w1 ⟨rfl, hK1⟩; obtain ⟨g0, g1, g2, g3⟩ := four_cells (heap_alloc_new w1 (.cells #[.int .i64 4, .int .i64 c, .int .i64 l, .bool f] 43))))
  go_ret
  exact ⟨rfl, hK1.trans (Keep.alloc [] _ _)⟩
set_option maxHeartbeats 1600000 in
theorem ofinal_has (pv : Option Addr) (a k c l : Int) (w : World) (hk : k ≠ 4) (hc : Calls Try.prog 18 #[.pointer pv, .int .i64 a] w fun e w' => e = .returned (.tuple #[.agg #[.int .i64 k, .int .i64 c, .int .i64 l, .bool true], .int .i64 0]) ∧ Keep [] w w') :
    Calls Try.prog 23 #[.pointer pv, .int .i64 a] w fun e w' => e = .returned (.int .i64 4) ∧ Keep [] w w' := by
  have HC := (show Hid (Calls Try.prog 18 #[.pointer pv, .int .i64 a] w fun e w' => e = .returned (.tuple #[.agg #[.int .i64 k, .int .i64 c, .int .i64 l, .bool true], .int .i64 0]) ∧ Keep [] w w') from hc)
  have hd : (k == 4) = false := by simpa using hk
  clear hc
  go_enter Try.func23, Try.ntmps23
  go_wp2_with (first | (go_at_call 18; refine HC.out.mono ?_; rintro e w1 ⟨rfl, hK1⟩; obtain ⟨g0, g1, g2, g3⟩ := four_cells (heap_alloc_new w1 (.cells #[.int .i64 k, .int .i64 c, .int .i64 l, .bool true] 43))))
  go_ret
  exact ⟨rfl, hK1.trans (Keep.alloc [] _ _)⟩
set_option maxRecDepth 100000 in
set_option maxHeartbeats 1600000 in
theorem ofinal_yes {sb tb : Nat} (b : Nat) (k c l : Int) (w : World) (h : Has w0 F0 (rawA hb sb tb ws kd ds) w) (hk : k ≠ 4) (hm : mayH k c l true = true) (hlt : b < ws.length) (hc : Calls Try.prog 18 #[.pointer (some ⟨hb, 0, none⟩), .int .i64 b] w fun e w' => e = .returned (.tuple #[.agg #[.int .i64 k, .int .i64 c, .int .i64 l, .bool false], .int .i64 0]) ∧ Keep [] w w') :
    Calls Try.prog 23 #[.pointer (some ⟨hb, 0, none⟩), .int .i64 b] w fun e w' => e = .returned (.int .i64 0) ∧ Has w0 F0 (rawA hb sb tb (ws.set b (putH k c l true)) kd ds) w' := by
  have HC := (show Hid (Calls Try.prog 18 #[.pointer (some ⟨hb, 0, none⟩), .int .i64 b] w fun e w' => e = .returned (.tuple #[.agg #[.int .i64 k, .int .i64 c, .int .i64 l, .bool false], .int .i64 0]) ∧ Keep [] w w') from hc)
  have hd : (k == 4) = false := by simpa using hk
  have HX := (show Hid (Has w0 F0 (rawA hb sb tb ws kd ds) w) from h)
  have HM := (show Hid (mayH k c l true = true) from hm)
  clear hc h hm
  go_enter Try.func23, Try.ntmps23
  go_upto_region 8 with (first | (go_at_call 18; refine HC.out.mono ?_; rintro e w1 ⟨rfl, hK1⟩; have hx := heap_alloc_new w1 (.cells #[.int .i64 k, .int .i64 c, .int .i64 l, .bool false] 43); obtain ⟨g0, g1, g2, g3⟩ := four_cells hx))
  have hK2 := hK1.trans (Keep.alloc [] w1 (.cells #[.int .i64 k, .int .i64 c, .int .i64 l, .bool false] 43))
  have hn := hK1.size
  generalize w1.alloc (.cells #[.int .i64 k, .int .i64 c, .int .i64 l, .bool false] 43) = w2 at *
  have hK3 : Keep [] w (w2.setCell ⟨w1.heap.size, 3, none⟩ (.bool true)) := ((hK2.mono (T := [w1.heap.size]) (by simp)).trans (Keep.setCell _ _ (by simp))).drop (by simp; omega)
  have hx3 : (w2.setCell ⟨w1.heap.size, 3, none⟩ (.bool true)).heap[w1.heap.size]? = some (.cells #[.int .i64 k, .int .i64 c, .int .i64 l, .bool true] 43 (0, 0)) := by simpa using heap_setCell_same w2 w1.heap.size 3 _ _ (.bool true) hx
  obtain ⟨f0, f1, f2, f3⟩ := four_free hx
  go_upto_region 9 with fail
  generalize w2.setCell ⟨w1.heap.size, 3, none⟩ (.bool true) = w3 at *
  obtain ⟨u0, u1, u2, u3⟩ := four_cells hx3
  clear g0 g1 g2 g3 hx hK2 f0 f1 f2 f3 hx3
  go_wp2_with (first | (go_at_call 40; refine (osethead b k c l true _ (HX.out.keep0 hK3) HM.out hlt).mono ?_; rintro e w4 ⟨rfl, hX4⟩))
  go_ret
  exact ⟨rfl, hX4⟩
theorem ofinal (a E : Int) (ws' : List Int) (w : World) (h : Has w0 F0 (heapA hb ws kd ds) w) (hT : FinalT kd ws a E ws') :
    Calls Try.prog 23 #[.pointer (some ⟨hb, 0, none⟩), .int .i64 a] w fun e w' => e = .returned (.int .i64 E) ∧ Has w0 F0 (heapA hb ws' kd ds) w' := by
  have hf := h.fine
  have hf' := hT.fine hf
  obtain ⟨sb, tb, hr⟩ := h.raw
  cases hT with
  | none hn => exact has_same h (ofinal_no _ a _ _ _ _ _ w (ohead a _ _ _ _ _ w h (.no hn)) (by omega))
  | kind b m c l f hA => exact has_same h (ofinal_kind _ a _ _ _ w (ohead a _ _ _ _ _ w h (.yes b m 4 c l f hA)))
  | has b m k c l hA hk => exact has_same h (ofinal_has _ a _ _ _ w hk (ohead a _ _ _ _ _ w h (.yes b m k c l true hA)))
  | yes b m k c l hA hk =>
    obtain ⟨rfl, e1, e2, e3, e4, e5⟩ := hA.facts hf.wf
    refine (ofinal_yes b k c l w hr hk (may_final hA.2.2.1 hk) (by have := hf.len; omega) (ohead b _ _ _ _ _ w h (.yes b m k c l false hA))).mono ?_
    rintro e w' ⟨rfl, hX⟩
    exact ⟨rfl, hX.heap hf'⟩
end

/-! ### New -/
set_option maxHeartbeats 1600000 in
theorem onew_no (n : Int) (w : World) (h : ¬ (1 ≤ n ∧ n ≤ 256)) :
    Calls Try.prog 20 #[.int .i64 n] w fun e w' => e = .returned (.tuple #[.pointer none, .int .i64 1]) ∧ Keep [] w w' := by
  have HN := (show Hid (¬ (1 ≤ n ∧ n ≤ 256)) from h)
  clear h
  go_enter Try.func20, Try.ntmps20
  go_wp2_with (first | (go_at_call 35; refine (snew_no n _ HN.out).mono ?_; rintro e w1 ⟨rfl, rfl⟩))
  go_ret2
  exact ⟨rfl, Keep.refl _ _⟩
set_option maxHeartbeats 1600000 in
theorem onew (n : Nat) (w : World) (h1 : 1 ≤ n) (h2 : n ≤ 256) :
    Calls Try.prog 20 #[.int .i64 n] w fun e w' => ∃ hb F, e = .returned (.tuple #[.pointer (some ⟨hb, 0, none⟩), .int .i64 0]) ∧ (heapA hb (zeros (64 * n)) (freshK n) []).at' w' F ∧ Keep [] w w' ∧ ∀ k, k ∈ F → w.heap.size ≤ k := by
  go_enter Try.func20, Try.ntmps20
  go_wp2_with (first | (go_at_call 35; refine (snew_ok n _ h1 h2).mono ?_; rintro e w1 ⟨sb, F, rfl, hS, hK1, hsb, hF⟩) | (go_at_call 36; refine (tnew _).mono ?_; rintro e w2 ⟨tb, rfl, hT, hK2, htb⟩))
  go_ret2
  have hlb := hT.lt tb (by simp)
  have hlF := hS.lt
  have hs1 := hK1.size
  have hs2 := hK2.size
  have hK3 := Keep.alloc [] w2 (.cells #[.pointer (some ⟨sb, 0, none⟩), .pointer (some ⟨tb, 0, none⟩)] 65)
  refine ⟨_, w2.heap.size :: (F ++ [tb]), rfl, ⟨⟨sb, tb, [w2.heap.size], F ++ [tb], by simp, ⟨rfl, heap_alloc_new w2 _⟩, ⟨F, [tb], by simp, (hS.keep0 hK2).keep0 hK3, hT.keep hK3 (by simp), ?_⟩, ?_⟩, Fine.fresh n h1 h2⟩, (hK1.trans hK2).trans hK3, ?_⟩
  · intro k hk
    have := hlF k hk
    simp; omega
  · intro k hk
    simp at hk
    subst hk
    simp only [List.mem_append, List.mem_singleton, not_or]
    exact ⟨fun e => by have := hlF _ e; omega, by omega⟩
  · intro k hk
    simp at hk
    rcases hk with rfl | hk | rfl
    · omega
    · exact hF k hk
    · omega
/-- A new heap, younger than all there was. -/
theorem onew_has (n : Nat) (w : World) (h1 : 1 ≤ n) (h2 : n ≤ 256) :
    Calls Try.prog 20 #[.int .i64 n] w fun e w' => ∃ hb, e = .returned (.tuple #[.pointer (some ⟨hb, 0, none⟩), .int .i64 0]) ∧ Has w [] (heapA hb (zeros (64 * n)) (freshK n) []) w' := by
  refine (onew n w h1 h2).mono ?_
  rintro e w' ⟨hb, F, rfl, hH, hK, hF⟩
  exact ⟨hb, rfl, F, hH, hK, fun k hk => .inr (hF k hk)⟩

end Go.Proofs.Ytjlbfojbgnhhbaa

/-
  Package object: what upTo, words and Refs answer.
-/
namespace Go.Proofs.Ytjlbfojbgnhhbaa
open Go.RowKit

theorem Row.ints {w : World} {t : TypeId} {g : Nat} {L : List Int} (h : Row w t g L) (hb : ∀ i : Nat, inI (L[i]?.getD 0)) : IntsAt w (some ⟨g, 0, none⟩) L :=
  ⟨fun _ => ⟨g, 0, rfl, h.lt, fun i hi => by rw [Nat.zero_add]; exact h.cell hi⟩, fun i => (hb i).1, fun i => (hb i).2⟩
theorem upL_bd (l : Int) (hl : l ≤ 1023) : ∀ i : Nat, inI ((upL l)[i]?.getD 0) := by
  intro i
  by_cases hi : i < l.toNat
  · rw [upL_get l i hi]; unfold inI; omega
  · rw [List.getElem?_eq_none (by rw [upL_length]; omega)]; exact inI_0
/-- The fields of an object of l fields at b. -/
def wordsL (ws : List Int) (b : Nat) (l : Int) : List Int := (List.range l.toNat).map (fun i => ws[b + 1 + i]?.getD 0)
theorem wordsL_length (ws : List Int) (b : Nat) (l : Int) : (wordsL ws b l).length = l.toNat := by simp [wordsL]
theorem wordsL_get (ws : List Int) (b : Nat) (l : Int) (i : Nat) (h : i < l.toNat) : (wordsL ws b l)[i]?.getD 0 = ws[b + 1 + i]?.getD 0 := by simp [wordsL, h]
theorem wordsL_bd {ws : List Int} (h : ∀ i : Nat, inI (ws[i]?.getD 0)) (b : Nat) (l : Int) : ∀ i : Nat, inI ((wordsL ws b l)[i]?.getD 0) := by
  intro i
  by_cases hi : i < l.toNat
  · rw [wordsL_get ws b l i hi]; exact h _
  · rw [List.getElem?_eq_none (by rw [wordsL_length]; omega)]; exact inI_0

section
variable {w0 : World} {F0 : List Nat} {hb : Nat} {ws : List Int} {kd : List PK} {ds : List (Int × List Int)}
theorem two_bd : ∀ i : Nat, inI (([2] : List Int)[i]?.getD 0) := by
  intro i
  rcases i with _ | i <;> simp [inI]
end

end Go.Proofs.Ytjlbfojbgnhhbaa

/-
  Package object: what Objects answers: a list in memory of its own.
-/
namespace Go.Proofs.Ytjlbfojbgnhhbaa
open Go.RowKit

/-- An object: where it is, its head, its fields. -/
structure OM where
  a : Int
  k : Int
  c : Int
  l : Int
  f : Bool
  L : List Int
/-- One in memory: its fields lie in a row z. -/
structure OV where
  o : OM
  z : Nat
def OV.cells (v : OV) : List Value := [.int .i64 v.o.a, .int .i64 v.o.k, .int .i64 v.o.c, .int .i64 v.o.l, .bool v.o.f, .slice (some ⟨v.z, 0, none⟩) v.o.L.length v.o.L.length]
def flatO (vs : List OV) : List Value := vs.flatMap OV.cells
theorem flatO_app (vs us : List OV) : flatO (vs ++ us) = flatO vs ++ flatO us := by simp [flatO]
theorem flatO_one (v : OV) : flatO [v] = v.cells := by simp [flatO]
theorem flatO_length (vs : List OV) : (flatO vs).length = vs.length * 6 := by
  induction vs with
  | nil => rfl
  | cons c cs ih => simp [flatO, OV.cells] at *; omega
theorem flatO_get (vs : List OV) (i : Nat) (v : OV) (h : vs[i]? = some v) (t : Nat) (ht : t < 6) : (flatO vs)[i * 6 + t]? = v.cells[t]? := by
  induction vs generalizing i with
  | nil => simp at h
  | cons d vs ih =>
    have e : flatO (d :: vs) = d.cells ++ flatO vs := by simp [flatO]
    have hd : d.cells.length = 6 := rfl
    rw [e]
    cases i with
    | zero => simp at h; subst h; rw [List.getElem?_append_left (by omega)]; simp
    | succ i =>
      simp at h
      rw [List.getElem?_append_right (by omega), hd, show (i + 1) * 6 + t - 6 = i * 6 + t by omega]
      exact ih i h

/-- What the words say of the object at a. -/
def objOf (ws : List Int) (a : Int) : OM := ⟨a, wk (ws[a.toNat]?.getD 0), wc (ws[a.toNat]?.getD 0), wl (ws[a.toNat]?.getD 0), wf (ws[a.toNat]?.getD 0), wordsL ws a.toNat (wl (ws[a.toNat]?.getD 0))⟩
def objsK (kd : List PK) (ws : List Int) : List OM := (eachK kd).map (objOf ws)
theorem objsK_length (kd : List PK) (ws : List Int) : (objsK kd ws).length = (eachK kd).length := by simp [objsK]
theorem each_at9 {kd : List PK} {ws : List Int} {ds : List (Int × List Int)} (h : Fine ws kd ds) (j : Nat) (hj : j < (eachK kd).length) : ∃ (b m : Nat) (k c l : Int) (f : Bool), (eachK kd)[j]? = some (b : Int) ∧ At kd ws b b m k c l f ∧ l + 1 ≤ m ∧ objOf ws b = ⟨b, k, c, l, f, wordsL ws b l⟩ := by
  have hm : (eachK kd)[j] ∈ eachTo kd kd.length := List.getElem_mem hj
  obtain ⟨b, n, e, _, _, hf⟩ := h.wf.each_in kd.length _ hm
  obtain ⟨k, c, l, f, h1, h2, _⟩ := h.ob.head b n hf
  obtain ⟨_, _, e1, e2, e3, e4⟩ := h1.parts
  exact ⟨b, n, k, c, l, f, by rw [List.getElem?_eq_getElem hj, e], ⟨rfl, hf, h1⟩, h2, by unfold objOf; rw [Int.toNat_natCast, e1, e2, e3, e4]⟩

theorem oneCells6 (a k c l : Int) (f : Bool) (la : Option Addr) (n lc : Nat) : ∀ u ∈ [Value.int .i64 a, .int .i64 k, .int .i64 c, .int .i64 l, .bool f, .slice la n lc], u.oneCell' = true := by
  intro u hu
  simp at hu
  rcases hu with rfl | rfl | rfl | rfl | rfl | rfl <;> rfl

section
variable {w0 : World} {F0 : List Nat} {hb : Nat} {ws : List Int} {kd : List PK} {ds : List (Int × List Int)}
end

end Go.Proofs.Ytjlbfojbgnhhbaa

/-
  Room: where all pages from one on are free a block is had, and those behind it stay free. Plain facts.
-/
namespace Go.Proofs.Ytjlbfojbgnhhbaa
open Go.RowKit

def FreeFrom (kd : List PK) (s : Nat) : Prop := ∀ t, s ≤ t → kat kd t = .free
theorem FreeFrom.fresh (n : Nat) (h : 1 ≤ n) : FreeFrom (freshK n) 1 := fun t ht => by rw [freshK_at n t h, if_neg (by omega)]
theorem FreeFrom.mono {kd : List PK} {s t : Nat} (h : FreeFrom kd s) (hs : s ≤ t) : FreeFrom kd t := fun u hu => h u (by omega)
theorem run_low {kd : List PK} {s k : Nat} {p : Int} (hk : 1 ≤ k) (hf : FreeFrom kd s) (hs : s + k ≤ kd.length) (h : runR (takenL kd) 0 k = p) : ∃ q : Nat, p = q ∧ q ≤ s := by
  have hc : Clear (takenL kd) s k := ⟨by rw [takenL_length]; omega, fun t a b => by rw [takenL_get, hf t a]; rfl⟩
  rcases runR_spec (takenL kd) k hk _ 0 rfl with ⟨_, h1⟩ | ⟨j, h1, h2⟩
  · exact absurd hc (h1 s (by omega))
  · refine ⟨j, by rw [← h, h1], ?_⟩
    rcases Nat.lt_or_ge s j with h3 | h3
    · exact absurd hc (h2.2.2 s (by omega) h3)
    · exact h3
theorem alloc_from {kd : List PK} {n : Int} {s K : Nat} (hn : 1 ≤ n ∧ n ≤ 1024) (hp : pagesI n ≤ K) (hK : 1 ≤ K) (hs : s + K ≤ kd.length) (hf : FreeFrom kd s) : ∃ a kd', AllocR kd n (some (a, kd')) ∧ FreeFrom kd' (s + K) := by
  obtain ⟨r, hr⟩ := alloc_ex kd n (by have := room_ge n hn.1 hn.2; omega)
  cases r with
  | none =>
    exfalso
    cases hr with
    | full c e1 e2 e3 => obtain ⟨q, e, _⟩ := run_low (by omega) hf (by omega) e3; omega
    | over k e1 e2 e3 e4 => obtain ⟨q, e, _⟩ := run_low e3 hf (by omega) e4; omega
  | some o =>
    obtain ⟨a, kd'⟩ := o
    refine ⟨a, kd', hr, fun t ht => ?_⟩
    cases hr with
    | old c p i xs e1 e2 e3 e4 e5 =>
      rw [kat_set_other _ _ _ _ (fun e => by subst e; rw [hf t (by omega)] at e3; cases e3)]
      exact hf t (by omega)
    | new c p e1 e2 e3 =>
      obtain ⟨q, e, h⟩ := run_low (by omega) hf (by omega) e3
      rw [kat_set_other _ _ _ _ (by omega)]
      exact hf t (by omega)
    | large k p e1 e2 e3 e4 =>
      obtain ⟨q, e, h⟩ := run_low e3 hf (by omega) e4
      rw [putParts_at _ _ _ _ (by omega), if_neg (by omega)]
      exact hf t (by omega)
/-- An object is made. -/
theorem make_from {kd : List PK} {ds : List (Int × List Int)} {k c l : Int} {s K : Nat} (ws : List Int) (hw : WF kd) (hm : mayH k c l false = true) (hF : FitsT ds k c l 0) (hp : pagesI (l + 1) ≤ K) (hK : 1 ≤ K) (hs : s + K ≤ kd.length) (hf : FreeFrom kd s) :
    ∃ (a b : Nat) (kd' : List PK), MakeT kd ws ds k c l false a 0 ((fill0 ws a b).set a (putH k c l false)) kd' ∧ AllocR kd (l + 1) (some (a, kd')) ∧ blockI (l + 1) = b ∧ FreeFrom kd' (s + K) := by
  have hb := mayH_bd hm
  obtain ⟨a, kd', h1, h2⟩ := alloc_from (kd := kd) (n := l + 1) (s := s) (K := K) (by omega) hp hK hs hf
  obtain ⟨b, hb', _⟩ := h1.spec hw
  exact ⟨a, b, kd', .yes a b kd' hm rfl hF h1 hb', h1, hb', h2⟩
theorem may_data (l : Int) (h1 : 0 ≤ l) (h2 : l ≤ 1023) : mayH 3 0 l false = true := by
  rw [mayH_23 _ _ _ (by omega), inB_yes (by omega) (by omega), inB_yes h1 h2]; rfl
theorem may_refs (l : Int) (h1 : 0 ≤ l) (h2 : l ≤ 1023) : mayH 2 0 l false = true := by
  rw [mayH_23 _ _ _ (by omega), inB_yes (by omega) (by omega), inB_yes h1 h2]; rfl
/-- What there is, behind an object that was made. -/
theorem MakeT.at {kd kd' : List PK} {ws : List Int} {k c l : Int} {a b : Nat} (hw : WF kd) (hl : ws.length = 64 * kd.length) (hm : mayH k c l false = true) (hr : AllocR kd (l + 1) (some (a, kd'))) (hb : blockI (l + 1) = b) : At kd' ((fill0 ws a b).set a (putH k c l false)) a a b k c l false := by
  obtain ⟨b', hb', h1, h2, h3, h4, h5, h6, h7⟩ := hr.spec hw
  obtain rfl : b = b' := by rw [hb] at hb'; omega
  refine ⟨rfl, by rw [h7, if_pos (by omega)], ?_⟩
  rw [set_get_same _ _ _ (by rw [fill0_length _ _ _ (by omega)]; omega)]
  exact ⟨hm, rfl⟩
/-- What there was is as it was. -/
theorem At.made {kd kd' : List PK} {ws : List Int} {n x : Int} {a b p m : Nat} {k c l : Int} {f : Bool} (h : At kd ws p p m k c l f) (hw : WF kd) (hl : ws.length = 64 * kd.length) (hr : AllocR kd n (some (a, kd'))) (hb : blockI n = b) : At kd' ((fill0 ws a b).set a x) p p m k c l f ∧ (p + m ≤ a ∨ a + b ≤ p) := by
  obtain ⟨b', hb', h1, h2, h3, h4, h5, h6, h7⟩ := hr.spec hw
  obtain rfl : b = b' := by rw [hb] at hb'; omega
  obtain ⟨_, h8, h9⟩ := h
  obtain ⟨g1, g2, g3, g4, g5, g6⟩ := hw.found h8
  have hd : p + m ≤ a ∨ a + b ≤ p := by
    rcases Nat.lt_or_ge a (p + m) with e1 | e1
    · rcases Nat.lt_or_ge p (a + b) with e2 | e2
      · have := g6 (max a p) (by omega) (by omega)
        rw [h6 (max a p) (by omega) (by omega)] at this
        cases this
      · exact .inr e2
    · exact .inl e1
  refine ⟨⟨rfl, by rw [h7, if_neg (by omega)]; exact h8, ?_⟩, hd⟩
  rw [set_get_other _ _ _ _ (by omega), fill0_get _ _ _ _ (by omega), if_neg (by omega)]
  exact h9

end Go.Proofs.Ytjlbfojbgnhhbaa

/-
  References made one behind the other in a heap that is new: what there is then. Plain facts.
-/
namespace Go.Proofs.Ytjlbfojbgnhhbaa
open Go.RowKit

/-- The first n references: words, pages and addresses, one by one. -/
structure Chain (n : Nat) (W : Nat → List Int) (K : Nat → List PK) (A : Nat → Nat) : Prop where
  w0 : W 0 = zeros (64 * 40)
  k0 : K 0 = freshK 40
  step : ∀ i, i < n → MakeT (K i) (W i) [] 4 (1 + ((i % 3 : Nat) : Int)) 5 false (A i : Int) 0 (W (i + 1)) (K (i + 1))
  fine : ∀ i, i ≤ n → Fine (W i) (K i) [] ∧ (K i).length = 40 ∧ FreeFrom (K i) (1 + i)
  refs : ∀ i, i ≤ n → ∀ j, j < i → ∃ (m : Nat) (c : Int), At (K i) (W i) (A j : Nat) (A j) m 4 c 5 false
  only : ∀ i, i ≤ n → ∀ (a : Int) (b m : Nat) (k c l : Int) (f : Bool), At (K i) (W i) a b m k c l f → ∃ j, j < i ∧ a = (A j : Int)
  ne : ∀ i j, i < n → j < i → A i ≠ A j

theorem may_ref3 (i : Nat) : mayH 4 (1 + ((i % 3 : Nat) : Int)) 5 false = true := by
  rw [mayH_4, inB_yes (by omega) (by omega), inB_yes (by omega) (by omega)]; rfl
theorem pages6 : pagesI (5 + 1) ≤ (1 : Nat) := by decide
theorem chain_ex (n : Nat) (hn : n ≤ 30) : ∃ W K A, Chain n W K A := by
  induction n with
  | zero =>
    refine ⟨fun _ => zeros (64 * 40), fun _ => freshK 40, fun _ => 0, rfl, rfl, fun i h => by omega, fun i h => ⟨Fine.fresh 40 (by omega) (by omega), freshK_length 40, ?_⟩, fun i h j hj => by omega, fun i h a b m k c l f hA => ?_, fun i j h => by omega⟩
    · exact (FreeFrom.fresh 40 (by omega)).mono (by omega)
    · have := hA.2.1
      rw [freshK_find 40 _ (by omega)] at this
      cases this
  | succ n ih =>
    obtain ⟨W, K, A, hC⟩ := ih (by omega)
    obtain ⟨hf, hk, hfree⟩ := hC.fine n (Nat.le_refl _)
    obtain ⟨a, b, kd', t1, r1, e1, g1⟩ := make_from (kd := K n) (ds := []) (s := 1 + n) (K := 1) (W n) hf.wf (may_ref3 n) (.other (by omega)) pages6 (by omega) (by rw [hk]; omega) hfree
    obtain ⟨f1, l1⟩ := t1.fine hf
    obtain ⟨ws', hws⟩ : ∃ ws', (fill0 (W n) a b).set a (putH 4 (1 + ((n % 3 : Nat) : Int)) 5 false) = ws' := ⟨_, rfl⟩
    have hat : At kd' ws' (a : Nat) a b 4 (1 + ((n % 3 : Nat) : Int)) 5 false := by rw [← hws]; exact MakeT.at hf.wf hf.len (may_ref3 n) r1 e1
    have hold : ∀ (p m : Nat) (k c l : Int) (f : Bool), At (K n) (W n) (p : Nat) p m k c l f → At kd' ws' (p : Nat) p m k c l f ∧ (p + m ≤ a ∨ a + b ≤ p) := fun p m k c l f h => by rw [← hws]; exact h.made hf.wf hf.len r1 e1
    obtain ⟨b', hb', h1, h2, h3, h4, h5, h6, h7⟩ := r1.spec hf.wf
    obtain rfl : b = b' := by rw [e1] at hb'; omega
    rw [hws] at t1 f1
    have hnew : ∀ (x : Int) (p m : Nat) (k c l : Int) (f : Bool), At kd' ws' x p m k c l f → x = (a : Int) ∨ At (K n) (W n) x p m k c l f := by
      rintro x p m k c l f ⟨q1, q2, q3⟩
      rw [h7 p] at q2
      split at q2
      · left; cases q2; exact q1
      · right
        refine ⟨q1, q2, ?_⟩
        rw [← hws, set_get_other _ _ _ _ (by omega), fill0_get _ _ _ _ (by have := hf.len; omega), if_neg (by assumption)] at q3
        exact q3
    have hW : ∀ i, i ≤ n → (if i ≤ n then W i else ws') = W i := fun i h => if_pos h
    have hK : ∀ i, i ≤ n → (if i ≤ n then K i else kd') = K i := fun i h => if_pos h
    have hA : ∀ i, i < n → (if i < n then A i else a) = A i := fun i h => if_pos h
    refine ⟨fun i => if i ≤ n then W i else ws', fun i => if i ≤ n then K i else kd', fun i => if i < n then A i else a, ?_, ?_, ?_, ?_, ?_, ?_, ?_⟩
    · exact hC.w0
    · exact hC.k0
    · intro i hi
      show MakeT (if i ≤ n then K i else kd') (if i ≤ n then W i else ws') [] 4 _ 5 false ((if i < n then A i else a : Nat) : Int) 0 (if i + 1 ≤ n then W (i + 1) else ws') (if i + 1 ≤ n then K (i + 1) else kd')
      rcases Nat.lt_or_ge i n with h | h
      · rw [hW i (by omega), hK i (by omega), hA i h, hW (i + 1) (by omega), hK (i + 1) (by omega)]
        exact hC.step i h
      · obtain rfl : i = n := by omega
        rw [hW i (by omega), hK i (by omega), if_neg (by omega), if_neg (by omega), if_neg (by omega)]
        exact t1
    · intro i hi
      show Fine (if i ≤ n then W i else ws') (if i ≤ n then K i else kd') [] ∧ (if i ≤ n then K i else kd').length = 40 ∧ FreeFrom (if i ≤ n then K i else kd') (1 + i)
      rcases Nat.lt_or_ge n i with h | h
      · obtain rfl : i = n + 1 := by omega
        rw [if_neg (by omega), if_neg (by omega)]
        exact ⟨f1, by rw [l1, hk], g1.mono (by omega)⟩
      · rw [hW i h, hK i h]
        exact hC.fine i h
    · intro i hi j hj
      show ∃ (m : Nat) (c : Int), At (if i ≤ n then K i else kd') (if i ≤ n then W i else ws') ((if j < n then A j else a : Nat) : Int) (if j < n then A j else a) m 4 c 5 false
      rcases Nat.lt_or_ge n i with h | h
      · obtain rfl : i = n + 1 := by omega
        rw [if_neg (by omega), if_neg (by omega)]
        rcases Nat.lt_or_ge j n with hjn | hjn
        · rw [hA j hjn]
          obtain ⟨m, c, hm⟩ := hC.refs n (Nat.le_refl _) j hjn
          exact ⟨m, c, (hold _ _ _ _ _ _ hm).1⟩
        · rw [if_neg (by omega)]
          exact ⟨b, _, hat⟩
      · rw [hW i h, hK i h, hA j (by omega)]
        exact hC.refs i h j hj
    · intro i hi x p m k c l f hx
      have hx' : At (if i ≤ n then K i else kd') (if i ≤ n then W i else ws') x p m k c l f := hx
      show ∃ j, j < i ∧ x = ((if j < n then A j else a : Nat) : Int)
      rcases Nat.lt_or_ge n i with h | h
      · obtain rfl : i = n + 1 := by omega
        rw [if_neg (by omega), if_neg (by omega)] at hx'
        rcases hnew _ _ _ _ _ _ _ hx' with e | e
        · exact ⟨n, by omega, by rw [if_neg (by omega)]; exact e⟩
        · obtain ⟨j, hj, e2⟩ := hC.only n (Nat.le_refl _) _ _ _ _ _ _ _ e
          exact ⟨j, by omega, by rw [hA j hj]; exact e2⟩
      · rw [hW i h, hK i h] at hx'
        obtain ⟨j, hj, e2⟩ := hC.only i h _ _ _ _ _ _ _ hx'
        exact ⟨j, hj, by rw [hA j (by omega)]; exact e2⟩
    · intro i j hi hj
      show (if i < n then A i else a) ≠ (if j < n then A j else a)
      rw [hA j (by omega)]
      rcases Nat.lt_or_ge i n with h | h
      · rw [hA i h]; exact hC.ne i j h hj
      · obtain rfl : i = n := by omega
        rw [if_neg (by omega)]
        obtain ⟨m, c, hm⟩ := hC.refs i (Nat.le_refl _) j hj
        have h8 := (hold _ _ _ _ _ _ hm).2
        have h9 := hm.facts hf.wf
        intro e
        rw [e] at h8
        omega
/-- The addresses. -/
def aL (A : Nat → Nat) (n : Nat) : List Int := (List.range n).map (fun i => (A i : Int))
theorem aL_length (A : Nat → Nat) (n : Nat) : (aL A n).length = n := by simp [aL]
theorem aL_get (A : Nat → Nat) (n i : Nat) (h : i < n) : (aL A n)[i]?.getD 0 = (A i : Int) := by simp [aL, h]
theorem aL_snoc (A : Nat → Nat) (n : Nat) : aL A (n + 1) = aL A n ++ [(A n : Int)] := by simp [aL, List.range_succ]
theorem Chain.bd {n : Nat} {W : Nat → List Int} {K : Nat → List PK} {A : Nat → Nat} (h : Chain n W K A) (j : Nat) (hj : j < n) : 64 ≤ A j ∧ A j ≤ 2560 := by
  obtain ⟨m, c, hm⟩ := h.refs n (Nat.le_refl _) j hj
  obtain ⟨hf, hk, _⟩ := h.fine n (Nat.le_refl _)
  have := hm.facts hf.wf
  omega
theorem Chain.aBd {n : Nat} {W : Nat → List Int} {K : Nat → List PK} {A : Nat → Nat} (h : Chain n W K A) (q : Nat) (hq : q ≤ n) : ∀ i : Nat, -9223372036854775808 ≤ (aL A q)[i]?.getD 0 ∧ (aL A q)[i]?.getD 0 ≤ 9223372036854775807 := by
  intro i
  by_cases hi : i < q
  · rw [aL_get A q i hi]; have := h.bd i (by omega); omega
  · rw [List.getElem?_eq_none (by rw [aL_length]; omega)]; simp

end Go.Proofs.Ytjlbfojbgnhhbaa
