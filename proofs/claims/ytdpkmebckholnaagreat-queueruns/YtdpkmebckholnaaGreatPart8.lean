/-
  Contracts of what the statement calls, one text behind the other (QueueM, RegionLast, RefsPush, RefsPoll, Awake9, OwnA, ListA, Heap12, RHeapFin, RHeapRefs).
-/
import Derived.Test.YtdpkmebckholnaaGreatPart4
import Derived.Test.YtdpkmebckholnaaGreatPart7
import Derived.OrdersHeld
import Derived.Deep.RegionHeld
import Derived.Deep.CutRange
import Derived.Test.YtdpkmebckholnaaGreatPart1
import Derived.Test.YtdpkmebckholnaaGreatPart6

/-
  References in rows: what a push and a poll leave of the words, and of each reference. Plain facts.
-/
namespace Go.Proofs.YtdpkmebckholnaaGreat
open Go.RowKit

/-- A reference lies at a. -/
def RefA (kd : List PK) (ws : List Int) (a : Nat) : Prop := ∃ (m : Nat) (c : Int), At kd ws (a : Nat) a m 4 c 5 false
section
variable {kd : List PK} {ws : List Int} {ds : List (Int × List Int)} {a b : Nat} {x : Int}
theorem RefA.head (h : RefA kd ws a) : ∃ c, HeadT kd ws a 4 c 5 false 0 := by obtain ⟨m, c, h⟩ := h; exact ⟨c, .yes a m 4 c 5 false h⟩
theorem at_room {k c l : Int} {m : Nat} {f : Bool} (hf : Fine ws kd ds) (h : At kd ws (a : Nat) a m k c l f) : l + 1 ≤ m := by
  obtain ⟨k', c', l', f', g1, g2, _⟩ := hf.ob.head a m h.2.1
  obtain ⟨_, _, _, _, p3, _⟩ := g1.parts
  obtain ⟨_, _, _, _, q3, _⟩ := h.2.2.parts
  have : l = l' := by rw [← p3, ← q3]
  omega
theorem RefA.place (hf : Fine ws kd ds) (h : RefA kd ws a) : PlaceT kd ws a 2 (a + 3) 0 ∧ a + 3 < ws.length ∧ 64 ≤ a := by
  obtain ⟨m, c, h⟩ := h
  have h1 := at_room hf h
  have h2 := h.facts hf.wf
  have h3 := hf.len
  exact ⟨.yes a m 2 4 c 5 false h rfl (by omega) h1, by omega, h2.2.1⟩
theorem RefA.put (hf : Fine ws kd ds) (h : RefA kd ws a) (x : Int) : PutT kd ws a 2 x 0 (ws.set (a + 3) x) := .yes (a + 3) (h.place hf).1 (h.place hf).2.1
theorem RefA.link (hf : Fine ws kd ds) (h : RefA kd ws a) (x : Int) : LinkT kd ws a x (ws.set (a + 3) x) := by
  have hp := h.put hf x
  obtain ⟨m, c, h⟩ := h
  exact .yes a m c 5 0 false _ h hp
theorem RefA.fineSet (hf : Fine ws kd ds) (h : RefA kd ws a) (hx : inI x) : Fine (ws.set (a + 3) x) kd ds := (h.put hf x).fine hf hx
theorem RefA.field (hf : Fine ws kd ds) (h : RefA kd ws a) : FieldT kd ws a 2 (ws[a + 3]?.getD 0) 0 := .yes (a + 3) (h.place hf).1 (h.place hf).2.1
/-- What else there is stays as it was. -/
theorem at_kept {y k c l : Int} {p m : Nat} {f : Bool} (hf : Fine ws kd ds) (h : RefA kd ws a) (hA : At kd ws y p m k c l f) (x : Int) : At kd (ws.set (a + 3) x) y p m k c l f := by
  obtain ⟨m', c', h⟩ := h
  have h1 := at_room hf h
  refine ⟨hA.1, hA.2.1, ?_⟩
  rw [set_get_other _ _ _ _ (fun e => ?_)]
  · exact hA.2.2
  · obtain ⟨g1, g2, _⟩ := hf.wf.found hA.2.1
    have := hf.wf.apart h.2.1 hA.2.1 (x := p) (by omega) (by omega) g1 g2
    omega
theorem RefA.kept (hf : Fine ws kd ds) (h : RefA kd ws a) (hb : RefA kd ws b) (x : Int) : RefA kd (ws.set (a + 3) x) b := by
  obtain ⟨m, c, hb⟩ := hb
  exact ⟨m, c, at_kept hf h hb x⟩
theorem at_back {y k c l : Int} {p m : Nat} {f : Bool} (hf : Fine ws kd ds) (h : RefA kd ws a) (hA : At kd (ws.set (a + 3) x) y p m k c l f) : At kd ws y p m k c l f := by
  obtain ⟨m', c', h⟩ := h
  have h1 := at_room hf h
  refine ⟨hA.1, hA.2.1, ?_⟩
  have h3 := hA.2.2
  rw [set_get_other _ _ _ _ (fun e => ?_)] at h3
  · exact h3
  · obtain ⟨g1, g2, _⟩ := hf.wf.found hA.2.1
    have := hf.wf.apart h.2.1 hA.2.1 (x := p) (by omega) (by omega) g1 g2
    omega
theorem RefA.inI (hf : Fine ws kd ds) (h : RefA kd ws a) : inI (a : Int) := by
  obtain ⟨m, c, h⟩ := h
  have := h.facts hf.wf
  unfold Go.Proofs.YtdpkmebckholnaaGreat.inI
  omega
end
theorem set_back {Ls : List (List Int)} {j : Nat} {L L' : List Int} (h : Ls[j]? = some L) : (Ls.set j L').set j L = Ls := by
  rw [List.set_set]
  apply List.ext_getElem?
  intro i
  by_cases e : j = i
  · subst e
    have hj : j < Ls.length := by
      rcases Nat.lt_or_ge j Ls.length with e | e
      · exact e
      · rw [List.getElem?_eq_none e] at h; cases h
    rw [List.getElem?_set_self hj, h]
  · rw [List.getElem?_set_ne e]
theorem set_at {Ls : List (List Int)} {j : Nat} {L : List Int} (h : j < Ls.length) : (Ls.set j L)[j]? = some L := List.getElem?_set_self h

section
variable {kd : List PK} {ws : List Int} {ds : List (Int × List Int)} {Ls : List (List Int)} {a : Nat}
theorem RefA.pushFirst (hf : Fine ws kd ds) (h : RefA kd ws a) {j : Nat} (hL : Ls[j]? = some []) : PushT kd ws Ls (j : Int) (a : Int) 0 (ws.set (a + 3) 0) (Ls.set j [(a : Int)]) := by
  have hl := h.link hf 0
  obtain ⟨m, c, h⟩ := h
  exact .first j a m c 5 false _ rfl hL h hl
theorem RefA.pushMore (hf : Fine ws kd ds) (h : RefA kd ws a) {j y : Nat} {L : List Int} (hL : Ls[j]? = some (L ++ [(y : Int)])) (hy : RefA kd ws y) : PushT kd ws Ls (j : Int) (a : Int) 0 ((ws.set (y + 3) (a : Int)).set (a + 3) 0) (Ls.set j (L ++ [(y : Int)] ++ [(a : Int)])) := by
  have hl := hy.link hf (a : Int)
  have h2 := (hy.kept hf h (a : Int)).link (hy.fineSet hf (h.inI hf)) 0
  obtain ⟨m, c, h⟩ := h
  exact .more j a m c 5 (y : Int) false L _ _ rfl hL h hl h2
theorem RefA.poll (hf : Fine ws kd ds) (h : RefA kd ws a) {j : Nat} {L : List Int} (hL : Ls[j]? = some ((a : Int) :: L)) : PollT kd ws Ls (j : Int) (a : Int) 0 (ws.set (a + 3) 0) (Ls.set j L) :=
  .yes j (a : Int) L _ rfl hL (h.link hf 0)
end

end Go.Proofs.YtdpkmebckholnaaGreat

/-
  A region that draws its order and ends with a store: what is read of memory may be read first, if all but the last operation leave it as it is, and the last one waits for all. It speaks of no program.
-/
namespace Go.Proofs.YtdpkmebckholnaaGreat
open Go

/-- Whatever order is picked; S holds behind each operation but the last. -/
def wpAnyL (P : Program) (md : Region.Mode) (ops : Array Oper) (Q : Exit → Act → World → Prop) (S : World → Prop) (last : Nat) : Nat → Array Bool → Act → World → Prop
  | 0, listed, a, w => Region.ready md ops listed = [] ∧ Q .normal a w
  | fuel + 1, listed, a, w =>
    (Region.ready md ops listed = [] → Q .normal a w) ∧
    ∀ i ∈ Region.ready md ops listed, wpOp P ops Q i (fun a' w' => (i ≠ last → S w') ∧ wpAnyL P md ops Q S last fuel (listed.setIfInBounds i true) a' w') a w
/-- The last operation waits for i. -/
def waitsB (md : Region.Mode) (ops : Array Oper) (last i : Nat) : Bool :=
  i != last && match ops[last]? with
    | some o => o.after.any (fun e => Region.binds md e && e.on == i)
    | none => false
section
variable {P : Program} {ops : Array Oper} {Q : Exit → Act → World → Prop} {md : Region.Mode} {S : World → Prop} {last : Nat}
theorem waitsB_spec {i : Nat} (h : waitsB md ops last i = true) : i ≠ last ∧ ∃ o, ops[last]? = some o ∧ ∃ e ∈ o.after, Region.binds md e = true ∧ e.on = i := by
  unfold waitsB at h
  rw [Bool.and_eq_true] at h
  obtain ⟨h1, h2⟩ := h
  refine ⟨by simpa using h1, ?_⟩
  cases ho : ops[last]? with
  | none => rw [ho] at h2; cases h2
  | some o =>
    rw [ho] at h2
    have h2' : o.after.any (fun e => Region.binds md e && e.on == i) = true := h2
    rw [Array.any_eq_true] at h2'
    obtain ⟨k, hk, h3⟩ := h2'
    rw [Bool.and_eq_true, beq_iff_eq] at h3
    exact ⟨o, rfl, o.after[k], Array.getElem_mem hk, h3⟩
theorem wpAny_of_last : ∀ (fuel : Nat) (listed : Array Bool) (a : Act) (w : World), wpAnyL P md ops Q S last fuel listed a w → wpAny P md ops Q fuel listed a w
  | 0, _, _, _, h => h
  | fuel + 1, _, _, _, h => ⟨h.1, fun i hi => wpOp_mono (fun a' w' h' => wpAny_of_last fuel _ a' w' h'.2) (h.2 i hi)⟩
theorem wpAnyL_first {i : Nat} {oi : Oper} {v : Value} (hi : ops[i]? = some oi) (hsel : ∀ (j : Nat) (o : Oper) cs b, ops[j]? = some o → o.op ≠ .select cs b)
    (hQ : ∀ c a w, Q (.panic c) (a.put oi.dst v) w → Q (.panic c) a w) (hl : waitsB md ops last i = true) :
    ∀ (fuel : Nat) (listed : Array Bool) (a : Act) (w : World),
      (∀ j oj, ops[j]? = some oj → j ≠ i → listed.getD j true = false → (∀ e ∈ oj.after, Region.binds md e = true → e.on ≠ i) → oi.apart ops oj = true) →
      i ∈ Region.ready md ops listed → YieldsIf P ops S oi v a → S w →
      wpAnyL P md ops Q S last fuel (listed.setIfInBounds i true) (a.put oi.dst v) w → wpAnyL P md ops Q S last (fuel + 1) listed a w := by
  intro fuel
  induction fuel with
  | zero =>
    intro listed a w _ hr hy hS H
    refine ⟨fun h => (by rw [h] at hr; cases hr), fun j hj => ?_⟩
    by_cases hji : j = i
    · subst hji; exact hy.wpOp hi hS ⟨fun _ => hS, H⟩
    · have := ready_mono hj hji
      rw [H.1] at this
      cases this
  | succ fuel ih =>
    intro listed a w hfree hr hy hS H
    refine ⟨fun h => (by rw [h] at hr; cases hr), fun j hj => ?_⟩
    by_cases hji : j = i
    · subst hji; exact hy.wpOp hi hS ⟨fun _ => hS, H⟩
    · have h1 := H.2 j (ready_mono hj hji)
      obtain ⟨hjun, oj, hoj, hall⟩ := mem_ready.1 hj
      have hnot : ∀ e ∈ oj.after, Region.binds md e = true → e.on ≠ i := fun e he hb heq => by
        have h1 := hall e he hb
        have h0 := (mem_ready.1 hr).1
        rw [heq] at h1
        rcases Nat.lt_or_ge i listed.size with h' | h'
        · simp [h'] at h0 h1; rw [h0] at h1; cases h1
        · simp [Array.getElem?_eq_none h'] at h1
      have hjl : j ≠ last := fun e => by
        obtain ⟨_, o, ho, e1, he1, hb1, hon⟩ := waitsB_spec hl
        subst e
        rw [hoj] at ho
        cases ho
        exact hnot e1 he1 hb1 hon
      have h2 := wpOp_putIf hoj (hfree j oj hoj hji hjun hnot) (fun cs b => hsel i oi cs b hi) (fun cs b => hsel j oj cs b hoj) hQ hy h1
      have hfree' : ∀ k ok, ops[k]? = some ok → k ≠ i → (listed.setIfInBounds j true).getD k true = false →
          (∀ e ∈ ok.after, Region.binds md e = true → e.on ≠ i) → oi.apart ops ok = true := fun k ok hk hki hun hno => by
        refine hfree k ok hk hki ?_ hno
        by_cases hjk : j = k
        · subst hjk; exact hjun
        · rw [getD_set_ne true hjk] at hun; exact hun
      refine wpOp_mono (fun a' w' h3 => ⟨h3.2.1, ih (listed.setIfInBounds j true) a' w' hfree' (ready_mono hr (Ne.symm hji)) h3.1 (h3.2.1 hjl) ?_⟩) h2
      rw [Array.setIfInBounds_comm _ _ hji]
      exact h3.2.2
/-- Number i first. -/
theorem wpAnyL_take {i : Nat} {oi : Oper} {v : Value} {fuel : Nat} {listed : Array Bool} {a : Act} {w : World} (hi : ops[i]? = some oi)
    (hs : Region.noSelect ops = true) (hf : Region.free md ops listed i = true) (hr : (Region.ready md ops listed).contains i = true) (hl : waitsB md ops last i = true)
    (hQ : ∀ c a w, Q (.panic c) (a.put oi.dst v) w → Q (.panic c) a w) (hy : YieldsIf P ops S oi v a) (hS : S w)
    (h : wpAnyL P md ops Q S last fuel (listed.setIfInBounds i true) (a.put oi.dst v) w) : wpAnyL P md ops Q S last (fuel + 1) listed a w :=
  wpAnyL_first hi (Region.noSelect_spec hs) hQ hl fuel listed a w (Region.free_spec hi hf) (by simpa using hr) hy hS h
/-- Each of the operations that may come up. -/
def AllReadyL (P : Program) (md : Region.Mode) (ops : Array Oper) (Q : Exit → Act → World → Prop) (S : World → Prop) (last fuel : Nat) (listed : Array Bool) (a : Act) (w : World) (rs : List Nat) : Prop :=
  ∀ i ∈ rs, wpOp P ops Q i (fun a' w' => (i ≠ last → S w') ∧ wpAnyL P md ops Q S last fuel (listed.setIfInBounds i true) a' w') a w
theorem AllReadyL.nil {fuel : Nat} {listed : Array Bool} {a : Act} {w : World} : AllReadyL P md ops Q S last fuel listed a w [] := fun _ h => by cases h
theorem AllReadyL.cons {fuel : Nat} {listed : Array Bool} {a : Act} {w : World} {i : Nat} {o : Oper} {rs : List Nat} (ho : ops[i]? = some o)
    (h : ∀ K' : Act → World → Prop, Shut (∀ a w, (i ≠ last → S w) → wpAnyL P md ops Q S last fuel (listed.setIfInBounds i true) a w → K' a w) → if Region.wanted o (yielded ops a.tmps) = true then Oper.wp P o a w K' Q else K' (a.put o.dst undef) w)
    (hs : AllReadyL P md ops Q S last fuel listed a w rs) : AllReadyL P md ops Q S last fuel listed a w (i :: rs) := fun j hj => by
  rcases List.mem_cons.1 hj with rfl | hj
  · exact wpOp_step ho (fun K' hK => h K' (fun a w hS hW => hK a w ⟨hS, hW⟩))
  · exact hs j hj
theorem wpAnyL_ready {rs : List Nat} {fuel : Nat} {listed : Array Bool} {a : Act} {w : World} (hr : Region.ready md ops listed = rs) (hne : rs ≠ [])
    (h : AllReadyL P md ops Q S last fuel listed a w rs) : wpAnyL P md ops Q S last (fuel + 1) listed a w :=
  ⟨fun h0 => absurd (hr ▸ h0) hne, hr ▸ h⟩
theorem wpAnyL_done {listed : Array Bool} {a : Act} {w : World} (hr : Region.ready md ops listed = []) (h : Q .normal a w) :
    ∀ fuel, wpAnyL P md ops Q S last fuel listed a w
  | 0 => ⟨hr, h⟩
  | _ + 1 => ⟨fun _ => h, by rw [hr]; simp⟩
/-- The beginning. -/
theorem wp_region_last {id : Nat} {a : Act} {w : World} (last : Nat) (hm : P.follows .mixedOrders = true) (hS : S w.drew)
    (h : S w.drew → wpAnyL P .any ops Q S last ops.size (Array.replicate ops.size false) a w.drew) : (Code.region id ops true).wp P Q a w :=
  wp_region_any hm (wpAny_of_last _ _ _ _ (h hS))
end

end Go.Proofs.YtdpkmebckholnaaGreat

/-
  The document's own references: what Push answers and leaves.
-/
namespace Go.Proofs.YtdpkmebckholnaaGreat
open Go.RowKit

theorem mA (w : World) (o : Obj) : (w.drew.alloc o).heap[w.heap.size]? = some o := heap_alloc_new w.drew o
theorem mB (w : World) (o p : Obj) : ((w.drew.alloc o).alloc p).heap[w.heap.size]? = some o := by
  rw [Below.heap_alloc _ _ _ (by simp)]; exact heap_alloc_new w.drew o
theorem mC (w : World) (o p : Obj) : ((w.drew.alloc p).alloc o).heap[w.heap.size + 1]? = some o := by
  have := heap_alloc_new (w.drew.alloc p) o
  rw [World.size_alloc] at this
  exact this
section
variable {w0 : World} {F0 : List Nat} {rb mb : Nat} {S : Int} {va : Option Addr} {vc : Nat} {ws : List Int} {kd : List PK} {ds : List (Int × List Int)} {Ls : List (List Int)}

set_option maxHeartbeats 1600000 in
theorem fpush_none (i a : Int) (w : World) (h : Has w0 F0 (refsA rb mb S ws kd ds Ls) w) (hi : ¬ IsQ Ls i) :
    Calls Tryz.prog 11 #[.pointer (some ⟨rb, 0, none⟩), .int .i64 i, .int .i64 a] w fun e w' => e = .returned (.int .i64 2) ∧ w = w' := by
  obtain ⟨va, vc, hr⟩ := h.fraw
  obtain ⟨_, c1, _⟩ := hr.fcells
  have HB := (show Hid (qhasB Ls.length i = false) from qhasB_no hi)
  have HC := hid c1
  clear h hr hi c1
  go_enter Tryz.func11, Tryz.ntmps11
  go_wp2_with (first | (go_at_call 27; refine (fhas _ i _ HC.out).mono ?_; rw [HB.out]; rintro e w1 ⟨rfl, rfl⟩))
  go_ret
  exact ⟨rfl, rfl⟩
set_option maxHeartbeats 1600000 in
theorem fpush_kind (i a k c l E : Int) (f : Bool) (w : World) (h : Has w0 F0 (refsA rb mb S ws kd ds Ls) w) (hi : IsQ Ls i) (hT : HeadT kd ws a k c l f E) (hk : k ≠ 4) :
    Calls Tryz.prog 11 #[.pointer (some ⟨rb, 0, none⟩), .int .i64 i, .int .i64 a] w fun e w' => e = .returned (.int .i64 5) ∧ Keep [] w w' := by
  obtain ⟨va, vc, hr⟩ := h.fraw
  obtain ⟨c0, c1, _⟩ := hr.fcells
  have HB := (show Hid (qhasB Ls.length i = true) from qhasB_yes hi)
  have HC := hid c1
  have HT := hid hT
  have HK := (show Hid ((k == 4) = false) from by show _ = _; simpa using hk)
  have HH := hid h.fheap
  have HC0 := hid c0
  clear h hr hi c1 c0 hT hk
  go_enter Tryz.func11, Tryz.ntmps11
  go_wp2_with (first | (go_at_call 27; refine (fhas _ i _ HC.out).mono ?_; rw [HB.out]; rintro e w1 ⟨rfl, rfl⟩) | (go_at_call 28; refine (fis a k c l E f _ HH.out HC0.out HT.out).mono ?_; rw [HK.out]; rintro e w1 ⟨rfl, hK1⟩))
  go_ret
  exact ⟨rfl, hK1⟩
set_option maxRecDepth 100000 in
set_option maxHeartbeats 8000000 in
theorem fpush_first (j a : Nat) (w : World) (h : Has w0 F0 (refsA rb mb S ws kd ds Ls) w) (hL : Ls[j]? = some []) (hA : RefA kd ws a) :
    Calls Tryz.prog 11 #[.pointer (some ⟨rb, 0, none⟩), .int .i64 j, .int .i64 a] w fun e w' => e = .returned (.int .i64 0) ∧ Has w0 F0 (refsA rb mb S (ws.set (a + 3) 0) kd ds (Ls.set j [(a : Int)])) w' := by
  obtain ⟨i0, hi, hz0, hz1, hz2⟩ := info_parts Tryz.infoIntQ
  have hI : Hid (Tryz.prog.info? 3 = some i0 ∧ i0.zero = some (.int .i64 0) ∧ i0.size = 1 ∧ i0.bytes = 8) := ⟨hi, hz0, hz1, hz2⟩
  clear hi hz0 hz1 hz2
  have hf := h.fheap.rfine
  have hj := isQ_j hL
  have hx := hA.inI hf
  have hab := hA.place hf
  have ha2 : a ≤ 20000 := by have := hf.len; have := hf.wf.len2; omega
  have HAB := (show Hid (-9223372036854775808 ≤ (a : Int) ∧ (a : Int) ≤ 9223372036854775807) from by show _ ∧ _; omega)
  have HP1 := (show Hid (PutT kd ws (a : Int) 2 0 0 (ws.set (a + 3) 0)) from hA.put hf 0)
  have HQ := (show Hid (QOK (Ls.set j [(a : Int)])) from h.fok.set j (by simp) (fun i => by rcases i with _ | i <;> simp <;> first | exact hx.1 | exact hx.2 | exact hx))
  obtain ⟨va, vc, hr⟩ := h.fraw
  obtain ⟨c0, c1, _⟩ := hr.fcells
  have HB := (show Hid (qhasB Ls.length j = true) from qhasB_yes (by omega))
  have HL := hid hL
  have HJ := hid hj
  obtain ⟨bb, v, rfl, c2, _, hm, n1, n2, n3, hp⟩ := hr.grow hL
  have HLR := (show Hid (inR ([] : List Int)) from (h.fok.2 _ (List.mem_of_getElem? hL)).2)
  obtain ⟨la, cc, rfl⟩ := hm.form
  rw [List.length_nil] at c2 hp n1 n2 hm
  have HP := hid hp
  have HH := hid h.fheap
  obtain ⟨ct, hct⟩ := hA.head
  have HT0 := hid hct
  obtain ⟨n, hn⟩ : ∃ n, Ls.length = n := ⟨_, rfl⟩
  rw [hn] at c1 hj HB
  have HN := hid hn
  have HC := hid c1
  have HC0 := hid c0
  clear h hr hL hm hp hA hn hf hab hx hct
  go_enter Tryz.func11, Tryz.ntmps11
  go_upto_region 6 with (first | (go_at_call 27; refine (fhas _ j _ HC.out).mono ?_; rw [HB.out]; rintro e w1 ⟨rfl, rfl⟩) | (go_at_call 28; refine (fis a 4 ct 5 0 false _ HH.out HC0.out HT0.out).mono ?_; rintro e w1 ⟨rfl, hK1⟩; have c0a := (hK1.cell (lt_of_cell2' c0) (by simp) 0).trans c0) | (go_at_call 29; refine (has_right (HP.out.keep0 hK1) (fun F hF => rput a 2 0 0 _ _ hF HP1.out inI_0)).mono ?_; rintro e w2 ⟨rfl, hP2⟩))
  obtain ⟨hr2, c22⟩ := hP2.unpin
  have HR2 := (show Hid (Has w0 F0 (refsR rb mb S (some ⟨bb, 0, none⟩) vc (ws.set (a + 3) 0) kd ds Ls) w2) from hr2)
  obtain ⟨c02, c12, _⟩ := HR2.out.fcells
  rw [HN.out] at c12
  have HP2' := hid hP2
  clear hr2 hP2 c0a hK1 c0 c1 c2 HP HC HC0 HH HT0 HB
  go_upto_region 9 with fail
  have HRN := (show Hid (Has w0 F0 (refsR rb mb S (some ⟨bb, 0, none⟩) vc (ws.set (a + 3) 0) kd ds Ls) w2) from HP2'.out.unpin.1)
  have c2 := HP2'.out.unpin.2
  obtain ⟨_, c1, _⟩ := HRN.out.fcells
  rw [HN.out] at c1
  obtain ⟨f2, hm2, m1, m2, _⟩ := Has.growAt HRN.out HL.out c2
  obtain ⟨hI2, _, hz2, _⟩ := hm2.ints HLR.out
  have HI := hid hI2
  have HZ := hid hz2
  have hl1 := lt_of_cell2' c1
  have hl2 := lt_of_cell2' c2
  have hji : (j : Int) < n := by omega
  have hj0i : (0 : Int) ≤ j := by omega
  have HC12 := (show Hid (∀ w', Keep [] w2 w' → w'.cell? ⟨rb, 1, none⟩ = some (.slice (some ⟨bb, 0, none⟩) n vc) ∧ w'.cell? ⟨bb, j, none⟩ = some (.slice la 0 cc)) from fun w' K => ⟨(K.cell hl1 (by simp) 1).trans c1, (K.cell hl2 (by simp) j).trans c2⟩)
  have HF2 := (show Hid (∀ w', Keep [] w2 w' → w'.frozen? ⟨bb, j, none⟩ = false) from fun w' K => (World.frozen?_of_block (w := w2) (a := ⟨bb, j, none⟩) (K.block bb hl2 (by simp))).trans f2)
  clear hm2 m1 m2 hI2 hz2 HP2' hl1 hl2 f2 c12 c22 c02 HR2 HP1
  refine wp_region_last (S := fun wz => wz.cell? ⟨rb, 1, none⟩ = some (.slice (some ⟨bb, 0, none⟩) n vc) ∧ wz.cell? ⟨bb, j, none⟩ = some (.slice la 0 cc)) 18 (by kernel_rfl) (HC12.out _ (Keep.drew [] _)) (fun hHeld => ?_)
  refine wpAnyL_take (i := 0) (oi := ?oi0_1) (v := ?vv0_1) ?hoi0_1 (by kernel_rfl) (by kernel_rfl) (by kernel_rfl) (by kernel_rfl) ?hq0_1 (Or.inl ⟨?hw0_1, ?hy0_1⟩) (by assumption) ?rest0_1
  case hoi0_1 => simp only [List.getElem?_toArray, List.getElem?_cons_zero]; rfl
  case hq0_1 => exact fun _ _ _ h => h
  case hw0_1 => rfl
  case hy0_1 =>
    intro w hSw
    (try dsimp only at hSw)
    go_simp
    try with_reducible rfl
  try simp only [Act.put, List.setIfInBounds_toArray, List.set_cons_zero, List.set_cons_succ]
  refine wpAnyL_take (i := 1) (oi := ?oi1_2) (v := ?vv1_2) ?hoi1_2 (by kernel_rfl) (by kernel_rfl) (by kernel_rfl) (by kernel_rfl) ?hq1_2 (Or.inl ⟨?hw1_2, ?hy1_2⟩) (by assumption) ?rest1_2
  case hoi1_2 => simp only [List.getElem?_toArray, List.getElem?_cons_succ, List.getElem?_cons_zero]; rfl
  case hq1_2 => exact fun _ _ _ h => h
  case hw1_2 => rfl
  case hy1_2 =>
    intro w hSw
    (try dsimp only at hSw)
    go_simp
    try with_reducible rfl
  try simp only [Act.put, List.setIfInBounds_toArray, List.set_cons_zero, List.set_cons_succ]
  refine wpAnyL_take (i := 2) (oi := ?oi2_3) (v := ?vv2_3) ?hoi2_3 (by kernel_rfl) (by kernel_rfl) (by kernel_rfl) (by kernel_rfl) ?hq2_3 (Or.inl ⟨?hw2_3, ?hy2_3⟩) (by assumption) ?rest2_3
  case hoi2_3 => simp only [List.getElem?_toArray, List.getElem?_cons_succ, List.getElem?_cons_zero]; rfl
  case hq2_3 => exact fun _ _ _ h => h
  case hw2_3 => rfl
  case hy2_3 =>
    intro w hSw
    (try dsimp only at hSw)
    go_simp
    try with_reducible rfl
  try simp only [Act.put, List.setIfInBounds_toArray, List.set_cons_zero, List.set_cons_succ]
  refine wpAnyL_take (i := 3) (oi := ?oi3_4) (v := ?vv3_4) ?hoi3_4 (by kernel_rfl) (by kernel_rfl) (by kernel_rfl) (by kernel_rfl) ?hq3_4 (Or.inl ⟨?hw3_4, ?hy3_4⟩) (by assumption) ?rest3_4
  case hoi3_4 => simp only [List.getElem?_toArray, List.getElem?_cons_succ, List.getElem?_cons_zero]; rfl
  case hq3_4 => exact fun _ _ _ h => h
  case hw3_4 => rfl
  case hy3_4 =>
    intro w hSw
    (try dsimp only at hSw)
    go_simp
    try with_reducible rfl
  try simp only [Act.put, List.setIfInBounds_toArray, List.set_cons_zero, List.set_cons_succ]
  refine wpAnyL_take (i := 4) (oi := ?oi4_5) (v := ?vv4_5) ?hoi4_5 (by kernel_rfl) (by kernel_rfl) (by kernel_rfl) (by kernel_rfl) ?hq4_5 (Or.inl ⟨?hw4_5, ?hy4_5⟩) (by assumption) ?rest4_5
  case hoi4_5 => simp only [List.getElem?_toArray, List.getElem?_cons_succ, List.getElem?_cons_zero]; rfl
  case hq4_5 => exact fun _ _ _ h => h
  case hw4_5 => rfl
  case hy4_5 =>
    intro w hSw
    (try dsimp only at hSw)
    go_simp
    try with_reducible rfl
  try simp only [Act.put, List.setIfInBounds_toArray, List.set_cons_zero, List.set_cons_succ]
  refine wpAnyL_take (i := 6) (oi := ?oi6_6) (v := ?vv6_6) ?hoi6_6 (by kernel_rfl) (by kernel_rfl) (by kernel_rfl) (by kernel_rfl) ?hq6_6 (Or.inl ⟨?hw6_6, ?hy6_6⟩) (by assumption) ?rest6_6
  case hoi6_6 => simp only [List.getElem?_toArray, List.getElem?_cons_succ, List.getElem?_cons_zero]; rfl
  case hq6_6 => exact fun _ _ _ h => h
  case hw6_6 => rfl
  case hy6_6 =>
    intro w hSw
    (try dsimp only at hSw)
    go_simp
    try with_reducible rfl
  try simp only [Act.put, List.setIfInBounds_toArray, List.set_cons_zero, List.set_cons_succ]
  refine wpAnyL_take (i := 7) (oi := ?oi7_7) (v := ?vv7_7) ?hoi7_7 (by kernel_rfl) (by kernel_rfl) (by kernel_rfl) (by kernel_rfl) ?hq7_7 (Or.inl ⟨?hw7_7, ?hy7_7⟩) (by assumption) ?rest7_7
  case hoi7_7 => simp only [List.getElem?_toArray, List.getElem?_cons_succ, List.getElem?_cons_zero]; rfl
  case hq7_7 => exact fun _ _ _ h => h
  case hw7_7 => rfl
  case hy7_7 =>
    intro w hSw
    (try dsimp only at hSw)
    go_simp
    try with_reducible rfl
  try simp only [Act.put, List.setIfInBounds_toArray, List.set_cons_zero, List.set_cons_succ]
  refine wpAnyL_take (i := 8) (oi := ?oi8_8) (v := ?vv8_8) ?hoi8_8 (by kernel_rfl) (by kernel_rfl) (by kernel_rfl) (by kernel_rfl) ?hq8_8 (Or.inl ⟨?hw8_8, ?hy8_8⟩) (by assumption) ?rest8_8
  case hoi8_8 => simp only [List.getElem?_toArray, List.getElem?_cons_succ, List.getElem?_cons_zero]; rfl
  case hq8_8 => exact fun _ _ _ h => h
  case hw8_8 => rfl
  case hy8_8 =>
    intro w hSw
    (try dsimp only at hSw)
    go_simp
    try with_reducible rfl
  try simp only [Act.put, List.setIfInBounds_toArray, List.set_cons_zero, List.set_cons_succ]
  refine wpAnyL_take (i := 9) (oi := ?oi9_9) (v := ?vv9_9) ?hoi9_9 (by kernel_rfl) (by kernel_rfl) (by kernel_rfl) (by kernel_rfl) ?hq9_9 (Or.inl ⟨?hw9_9, ?hy9_9⟩) (by assumption) ?rest9_9
  case hoi9_9 => simp only [List.getElem?_toArray, List.getElem?_cons_succ, List.getElem?_cons_zero]; rfl
  case hq9_9 => exact fun _ _ _ h => h
  case hw9_9 => rfl
  case hy9_9 =>
    intro w hSw
    (try dsimp only at hSw)
    go_simp
    try with_reducible rfl
  try simp only [Act.put, List.setIfInBounds_toArray, List.set_cons_zero, List.set_cons_succ]
  refine wpAnyL_take (i := 10) (oi := ?oi10_10) (v := ?vv10_10) ?hoi10_10 (by kernel_rfl) (by kernel_rfl) (by kernel_rfl) (by kernel_rfl) ?hq10_10 (Or.inl ⟨?hw10_10, ?hy10_10⟩) (by assumption) ?rest10_10
  case hoi10_10 => simp only [List.getElem?_toArray, List.getElem?_cons_succ, List.getElem?_cons_zero]; rfl
  case hq10_10 => exact fun _ _ _ h => h
  case hw10_10 => rfl
  case hy10_10 =>
    intro w hSw
    (try dsimp only at hSw)
    go_simp
    try with_reducible rfl
  try simp only [Act.put, List.setIfInBounds_toArray, List.set_cons_zero, List.set_cons_succ]
  refine wpAnyL_take (i := 11) (oi := ?oi11_11) (v := ?vv11_11) ?hoi11_11 (by kernel_rfl) (by kernel_rfl) (by kernel_rfl) (by kernel_rfl) ?hq11_11 (Or.inl ⟨?hw11_11, ?hy11_11⟩) (by assumption) ?rest11_11
  case hoi11_11 => simp only [List.getElem?_toArray, List.getElem?_cons_succ, List.getElem?_cons_zero]; rfl
  case hq11_11 => exact fun _ _ _ h => h
  case hw11_11 => rfl
  case hy11_11 =>
    intro w hSw
    (try dsimp only at hSw)
    go_simp
    try with_reducible rfl
  try simp only [Act.put, List.setIfInBounds_toArray, List.set_cons_zero, List.set_cons_succ]
  refine wpAnyL_take (i := 12) (oi := ?oi12_12) (v := ?vv12_12) ?hoi12_12 (by kernel_rfl) (by kernel_rfl) (by kernel_rfl) (by kernel_rfl) ?hq12_12 (Or.inl ⟨?hw12_12, ?hy12_12⟩) (by assumption) ?rest12_12
  case hoi12_12 => simp only [List.getElem?_toArray, List.getElem?_cons_succ, List.getElem?_cons_zero]; rfl
  case hq12_12 => exact fun _ _ _ h => h
  case hw12_12 => rfl
  case hy12_12 =>
    intro w hSw
    (try dsimp only at hSw)
    go_simp
    try with_reducible rfl
  try simp only [Act.put, List.setIfInBounds_toArray, List.set_cons_zero, List.set_cons_succ]
  refine wpAnyL_take (i := 14) (oi := ?oi14_13) (v := ?vv14_13) ?hoi14_13 (by kernel_rfl) (by kernel_rfl) (by kernel_rfl) (by kernel_rfl) ?hq14_13 (Or.inl ⟨?hw14_13, ?hy14_13⟩) (by assumption) ?rest14_13
  case hoi14_13 => simp only [List.getElem?_toArray, List.getElem?_cons_succ, List.getElem?_cons_zero]; rfl
  case hq14_13 => exact fun _ _ _ h => h
  case hw14_13 => rfl
  case hy14_13 =>
    intro w hSw
    (try dsimp only at hSw)
    go_simp
    try with_reducible rfl
  try simp only [Act.put, List.setIfInBounds_toArray, List.set_cons_zero, List.set_cons_succ]
  refine wpAnyL_ready (rs := [5, 15]) (by kernel_rfl) (by simp) ?_
  refine AllReadyL.cons (o := ?oo5_15) ?ho5_15 (fun K hK => ?st5_15) (AllReadyL.cons (o := ?oo15_14) ?ho15_14 (fun K hK => ?st15_14) AllReadyL.nil)
  case ho5_15 => simp only [List.getElem?_toArray, List.getElem?_cons_succ, List.getElem?_cons_zero]; rfl
  case ho15_14 => simp only [List.getElem?_toArray, List.getElem?_cons_succ, List.getElem?_cons_zero]; rfl
  case st5_15 =>
    go_simp
    have hHeld := HC12.out _ (show Keep [] w2 (w2.drew.alloc (.cells #[] 3)) from (Keep.drew [] _).trans (Keep.alloc [] _ _))
    refine hK.out _ _ (fun _ => hHeld) ?_
    clear hK K
    try simp only [Act.put, List.setIfInBounds_toArray, List.set_cons_zero, List.set_cons_succ]
    refine wpAnyL_ready (rs := [13, 15]) (by kernel_rfl) (by simp) ?_
    refine AllReadyL.cons (o := ?oo13_17) ?ho13_17 (fun K hK => ?st13_17) (AllReadyL.cons (o := ?oo15_16) ?ho15_16 (fun K hK => ?st15_16) AllReadyL.nil)
    case ho13_17 => simp only [List.getElem?_toArray, List.getElem?_cons_succ, List.getElem?_cons_zero]; rfl
    case ho15_16 => simp only [List.getElem?_toArray, List.getElem?_cons_succ, List.getElem?_cons_zero]; rfl
    case st13_17 =>
      refine step_append_ints rfl (.tmp 54) (.tmp 61) 23 rfl w2.heap.size 3 i0 Tryz.underlying23 hI.out (.slice (some ⟨_, 0, none⟩) 0 0) 0 [] ([] : List Int) rfl (own_emptyB (by first | exact mA _ _ | exact mB _ _ _ | exact mC _ _ _) (by omega)) la 0 cc rfl rfl (HI.out.keep (S := []) (by first | exact (Keep.drew [] _).trans (Keep.alloc [] _ _) | exact ((Keep.drew [] _).trans (Keep.alloc [] _ _)).trans (Keep.alloc [] _ _)) (fun _ _ _ => by simp)) HZ.out (by omega) (by first | (simp; done) | (simp; omega)) ?_
      intro v5 w5 hown5 hgrow5
      have hK5 : Keep [] w2 w5 := (show Keep [] w2 _ from by first | exact (Keep.drew [] _).trans (Keep.alloc [] _ _) | exact ((Keep.drew [] _).trans (Keep.alloc [] _ _)).trans (Keep.alloc [] _ _)).grown hgrow5 (fun z e => by simp [Value.ownBlock] at e; omega)
      first
        | (have HY5 := (show Hid (IntsAt w5 (some ⟨w2.heap.size + 1, 0, none⟩) [(a : Int)]) from IntsAt.grew (mC _ _ _) hgrow5 (by simp [Value.ownBlock]) HAB.out.1 HAB.out.2))
        | (have HY5 := (show Hid (IntsAt w5 (some ⟨w2.heap.size, 0, none⟩) [(a : Int)]) from IntsAt.grew (mB _ _ _) hgrow5 (by simp [Value.ownBlock]) HAB.out.1 HAB.out.2))
        | skip
      rw [Nat.zero_add, List.nil_append] at hown5
      have HO5 := (show Hid (w5.ownsRow w2.heap.size 3 1 v5 0 (ints ([] : List Int))) from hown5)
      have HK5 := (show Hid (Keep [] w2 w5) from hK5)
      clear hown5 hgrow5 hK5
      refine hK.out _ _ (fun _ => HC12.out _ HK5.out) ?_
      clear hK K
      have hHeld := HC12.out _ HK5.out
      try simp only [Act.put, List.setIfInBounds_toArray, List.set_cons_zero, List.set_cons_succ]
      refine wpAnyL_ready (rs := [15]) (by kernel_rfl) (by simp) ?_
      refine AllReadyL.cons (o := ?oo15_18) ?ho15_18 (fun K hK => ?st15_18) AllReadyL.nil
      case ho15_18 => simp only [List.getElem?_toArray, List.getElem?_cons_succ, List.getElem?_cons_zero]; rfl
      case st15_18 =>
        go_simp
        have hHeld := HC12.out _ (show Keep [] w2 (w5.alloc (.cells #[.int .i64 (a : Int)] 3)) from HK5.out.trans (Keep.alloc [] _ _))
        refine hK.out _ _ (fun _ => hHeld) ?_
        clear hK K
        try simp only [Act.put, List.setIfInBounds_toArray, List.set_cons_zero, List.set_cons_succ]
        refine wpAnyL_ready (rs := [16]) (by kernel_rfl) (by simp) ?_
        refine AllReadyL.cons (o := ?oo16_19) ?ho16_19 (fun K hK => ?st16_19) AllReadyL.nil
        case ho16_19 => simp only [List.getElem?_toArray, List.getElem?_cons_succ, List.getElem?_cons_zero]; rfl
        case st16_19 =>
          refine step_append_ints rfl (.tmp 62) (.tmp 64) 23 rfl w2.heap.size 3 i0 Tryz.underlying23 hI.out v5 0 ([] : List Int) [(a : Int)] rfl (by first | exact HO5.out | exact HO5.out.alloc _) _ 1 1 rfl rfl (by first | exact HY5.out | exact IntsAt.oneB (heap_alloc_new _ _) HAB.out.1 HAB.out.2) (by simp) (by omega) (by have := HK5.out.size; simp; omega) ?_
          intro v6 w6 hown6 hgrow6
          have hK6 : Keep [] w2 w6 := (show Keep [] w2 _ from by first | exact HK5.out | exact HK5.out.trans (Keep.alloc [] _ _)).grown hgrow6 (own_block HO5.out)
          have HB6 := (show Hid (∀ k, v6.ownBlock = some k → (Value.slice la 0 cc).ownBlock = some k ∨ w2.heap.size ≤ k) from fun k e => .inr (own_block hown6 k e))
          have HM6 := (show Hid (IsMid w6 3 v6 (([] : List Int) ++ [(a : Int)])) from own_mid hown6)
          have HK6 := (show Hid (Keep [] w2 w6) from hK6)
          obtain ⟨l6, d6, hv6⟩ := HM6.out.form
          subst hv6
          clear hown6 hgrow6 hK6
          refine hK.out _ _ (fun _ => HC12.out _ HK6.out) ?_
          clear hK K
          have hHeld := HC12.out _ HK6.out
          try simp only [Act.put, List.setIfInBounds_toArray, List.set_cons_zero, List.set_cons_succ]
          refine wpAnyL_take (i := 17) (oi := ?oi17_20) (v := ?vv17_20) ?hoi17_20 (by kernel_rfl) (by kernel_rfl) (by kernel_rfl) (by kernel_rfl) ?hq17_20 (Or.inl ⟨?hw17_20, ?hy17_20⟩) (by assumption) ?rest17_20
          case hoi17_20 => simp only [List.getElem?_toArray, List.getElem?_cons_succ, List.getElem?_cons_zero]; rfl
          case hq17_20 => exact fun _ _ _ h => h
          case hw17_20 => rfl
          case hy17_20 =>
            intro w hSw
            (try dsimp only at hSw)
            go_simp
            try with_reducible rfl
          try simp only [Act.put, List.setIfInBounds_toArray, List.set_cons_zero, List.set_cons_succ]
          refine wpAnyL_ready (rs := [18]) (by kernel_rfl) (by simp) ?_
          refine AllReadyL.cons (o := ?oo18_21) ?ho18_21 (fun K hK => ?st18_21) AllReadyL.nil
          case ho18_21 => simp only [List.getElem?_toArray, List.getElem?_cons_succ, List.getElem?_cons_zero]; rfl
          case st18_21 =>
            obtain ⟨c16, c26⟩ := HC12.out _ HK6.out
            have f26 := HF2.out _ HK6.out
            go_simp
            refine hK.out _ _ (fun h => absurd rfl h) ?_
            clear hK K
            refine wpAnyL_done (by kernel_rfl) ?_ _
            go_wp2_with fail
            go_ret
            have e2 : (([] : List Int) ++ [(a : Int)]).length = 1 := by simp
            have h5 := HM6.out
            have h6 := HB6.out
            rw [e2] at h5 h6
            exact ⟨rfl, Has.refs (va := some ⟨bb, 0, none⟩) (vc := vc) (by unfold refsR; rw [List.length_set]; exact Has.gput HRN.out HJ.out c2 h5 (HK6.out.mono (by simp)) h6) HQ.out⟩
    case st15_16 =>
      go_simp
      have hHeld := HC12.out _ (show Keep [] w2 ((w2.drew.alloc (.cells #[] 3)).alloc (.cells #[.int .i64 (a : Int)] 3)) from ((Keep.drew [] _).trans (Keep.alloc [] _ _)).trans (Keep.alloc [] _ _))
      refine hK.out _ _ (fun _ => hHeld) ?_
      clear hK K
      try simp only [Act.put, List.setIfInBounds_toArray, List.set_cons_zero, List.set_cons_succ]
      refine wpAnyL_ready (rs := [13]) (by kernel_rfl) (by simp) ?_
      refine AllReadyL.cons (o := ?oo13_22) ?ho13_22 (fun K hK => ?st13_22) AllReadyL.nil
      case ho13_22 => simp only [List.getElem?_toArray, List.getElem?_cons_succ, List.getElem?_cons_zero]; rfl
      case st13_22 =>
        refine step_append_ints rfl (.tmp 54) (.tmp 61) 23 rfl w2.heap.size 3 i0 Tryz.underlying23 hI.out (.slice (some ⟨_, 0, none⟩) 0 0) 0 [] ([] : List Int) rfl (own_emptyB (by first | exact mA _ _ | exact mB _ _ _ | exact mC _ _ _) (by omega)) la 0 cc rfl rfl (HI.out.keep (S := []) (by first | exact (Keep.drew [] _).trans (Keep.alloc [] _ _) | exact ((Keep.drew [] _).trans (Keep.alloc [] _ _)).trans (Keep.alloc [] _ _)) (fun _ _ _ => by simp)) HZ.out (by omega) (by first | (simp; done) | (simp; omega)) ?_
        intro v5 w5 hown5 hgrow5
        have hK5 : Keep [] w2 w5 := (show Keep [] w2 _ from by first | exact (Keep.drew [] _).trans (Keep.alloc [] _ _) | exact ((Keep.drew [] _).trans (Keep.alloc [] _ _)).trans (Keep.alloc [] _ _)).grown hgrow5 (fun z e => by simp [Value.ownBlock] at e; omega)
        first
          | (have HY5 := (show Hid (IntsAt w5 (some ⟨w2.heap.size + 1, 0, none⟩) [(a : Int)]) from IntsAt.grew (mC _ _ _) hgrow5 (by simp [Value.ownBlock]) HAB.out.1 HAB.out.2))
          | (have HY5 := (show Hid (IntsAt w5 (some ⟨w2.heap.size, 0, none⟩) [(a : Int)]) from IntsAt.grew (mB _ _ _) hgrow5 (by simp [Value.ownBlock]) HAB.out.1 HAB.out.2))
          | skip
        rw [Nat.zero_add, List.nil_append] at hown5
        have HO5 := (show Hid (w5.ownsRow w2.heap.size 3 1 v5 0 (ints ([] : List Int))) from hown5)
        have HK5 := (show Hid (Keep [] w2 w5) from hK5)
        clear hown5 hgrow5 hK5
        refine hK.out _ _ (fun _ => HC12.out _ HK5.out) ?_
        clear hK K
        have hHeld := HC12.out _ HK5.out
        try simp only [Act.put, List.setIfInBounds_toArray, List.set_cons_zero, List.set_cons_succ]
        refine wpAnyL_ready (rs := [16]) (by kernel_rfl) (by simp) ?_
        refine AllReadyL.cons (o := ?oo16_23) ?ho16_23 (fun K hK => ?st16_23) AllReadyL.nil
        case ho16_23 => simp only [List.getElem?_toArray, List.getElem?_cons_succ, List.getElem?_cons_zero]; rfl
        case st16_23 =>
          refine step_append_ints rfl (.tmp 62) (.tmp 64) 23 rfl w2.heap.size 3 i0 Tryz.underlying23 hI.out v5 0 ([] : List Int) [(a : Int)] rfl (by first | exact HO5.out | exact HO5.out.alloc _) _ 1 1 rfl rfl (by first | exact HY5.out | exact IntsAt.oneB (heap_alloc_new _ _) HAB.out.1 HAB.out.2) (by simp) (by omega) (by have := HK5.out.size; simp; omega) ?_
          intro v6 w6 hown6 hgrow6
          have hK6 : Keep [] w2 w6 := (show Keep [] w2 _ from by first | exact HK5.out | exact HK5.out.trans (Keep.alloc [] _ _)).grown hgrow6 (own_block HO5.out)
          have HB6 := (show Hid (∀ k, v6.ownBlock = some k → (Value.slice la 0 cc).ownBlock = some k ∨ w2.heap.size ≤ k) from fun k e => .inr (own_block hown6 k e))
          have HM6 := (show Hid (IsMid w6 3 v6 (([] : List Int) ++ [(a : Int)])) from own_mid hown6)
          have HK6 := (show Hid (Keep [] w2 w6) from hK6)
          obtain ⟨l6, d6, hv6⟩ := HM6.out.form
          subst hv6
          clear hown6 hgrow6 hK6
          refine hK.out _ _ (fun _ => HC12.out _ HK6.out) ?_
          clear hK K
          have hHeld := HC12.out _ HK6.out
          try simp only [Act.put, List.setIfInBounds_toArray, List.set_cons_zero, List.set_cons_succ]
          refine wpAnyL_take (i := 17) (oi := ?oi17_24) (v := ?vv17_24) ?hoi17_24 (by kernel_rfl) (by kernel_rfl) (by kernel_rfl) (by kernel_rfl) ?hq17_24 (Or.inl ⟨?hw17_24, ?hy17_24⟩) (by assumption) ?rest17_24
          case hoi17_24 => simp only [List.getElem?_toArray, List.getElem?_cons_succ, List.getElem?_cons_zero]; rfl
          case hq17_24 => exact fun _ _ _ h => h
          case hw17_24 => rfl
          case hy17_24 =>
            intro w hSw
            (try dsimp only at hSw)
            go_simp
            try with_reducible rfl
          try simp only [Act.put, List.setIfInBounds_toArray, List.set_cons_zero, List.set_cons_succ]
          refine wpAnyL_ready (rs := [18]) (by kernel_rfl) (by simp) ?_
          refine AllReadyL.cons (o := ?oo18_25) ?ho18_25 (fun K hK => ?st18_25) AllReadyL.nil
          case ho18_25 => simp only [List.getElem?_toArray, List.getElem?_cons_succ, List.getElem?_cons_zero]; rfl
          case st18_25 =>
            obtain ⟨c16, c26⟩ := HC12.out _ HK6.out
            have f26 := HF2.out _ HK6.out
            go_simp
            refine hK.out _ _ (fun h => absurd rfl h) ?_
            clear hK K
            refine wpAnyL_done (by kernel_rfl) ?_ _
            go_wp2_with fail
            go_ret
            have e2 : (([] : List Int) ++ [(a : Int)]).length = 1 := by simp
            have h5 := HM6.out
            have h6 := HB6.out
            rw [e2] at h5 h6
            exact ⟨rfl, Has.refs (va := some ⟨bb, 0, none⟩) (vc := vc) (by unfold refsR; rw [List.length_set]; exact Has.gput HRN.out HJ.out c2 h5 (HK6.out.mono (by simp)) h6) HQ.out⟩
  case st15_14 =>
    go_simp
    have hHeld := HC12.out _ (show Keep [] w2 (w2.drew.alloc (.cells #[.int .i64 (a : Int)] 3)) from (Keep.drew [] _).trans (Keep.alloc [] _ _))
    refine hK.out _ _ (fun _ => hHeld) ?_
    clear hK K
    try simp only [Act.put, List.setIfInBounds_toArray, List.set_cons_zero, List.set_cons_succ]
    refine wpAnyL_ready (rs := [5]) (by kernel_rfl) (by simp) ?_
    refine AllReadyL.cons (o := ?oo5_26) ?ho5_26 (fun K hK => ?st5_26) AllReadyL.nil
    case ho5_26 => simp only [List.getElem?_toArray, List.getElem?_cons_succ, List.getElem?_cons_zero]; rfl
    case st5_26 =>
      go_simp
      have hHeld := HC12.out _ (show Keep [] w2 ((w2.drew.alloc (.cells #[.int .i64 (a : Int)] 3)).alloc (.cells #[] 3)) from ((Keep.drew [] _).trans (Keep.alloc [] _ _)).trans (Keep.alloc [] _ _))
      refine hK.out _ _ (fun _ => hHeld) ?_
      clear hK K
      try simp only [Act.put, List.setIfInBounds_toArray, List.set_cons_zero, List.set_cons_succ]
      refine wpAnyL_ready (rs := [13]) (by kernel_rfl) (by simp) ?_
      refine AllReadyL.cons (o := ?oo13_27) ?ho13_27 (fun K hK => ?st13_27) AllReadyL.nil
      case ho13_27 => simp only [List.getElem?_toArray, List.getElem?_cons_succ, List.getElem?_cons_zero]; rfl
      case st13_27 =>
        refine step_append_ints rfl (.tmp 54) (.tmp 61) 23 rfl w2.heap.size 3 i0 Tryz.underlying23 hI.out (.slice (some ⟨_, 0, none⟩) 0 0) 0 [] ([] : List Int) rfl (own_emptyB (by first | exact mA _ _ | exact mB _ _ _ | exact mC _ _ _) (by omega)) la 0 cc rfl rfl (HI.out.keep (S := []) (by first | exact (Keep.drew [] _).trans (Keep.alloc [] _ _) | exact ((Keep.drew [] _).trans (Keep.alloc [] _ _)).trans (Keep.alloc [] _ _)) (fun _ _ _ => by simp)) HZ.out (by omega) (by first | (simp; done) | (simp; omega)) ?_
        intro v5 w5 hown5 hgrow5
        have hK5 : Keep [] w2 w5 := (show Keep [] w2 _ from by first | exact (Keep.drew [] _).trans (Keep.alloc [] _ _) | exact ((Keep.drew [] _).trans (Keep.alloc [] _ _)).trans (Keep.alloc [] _ _)).grown hgrow5 (fun z e => by simp [Value.ownBlock] at e; omega)
        first
          | (have HY5 := (show Hid (IntsAt w5 (some ⟨w2.heap.size + 1, 0, none⟩) [(a : Int)]) from IntsAt.grew (mC _ _ _) hgrow5 (by simp [Value.ownBlock]) HAB.out.1 HAB.out.2))
          | (have HY5 := (show Hid (IntsAt w5 (some ⟨w2.heap.size, 0, none⟩) [(a : Int)]) from IntsAt.grew (mB _ _ _) hgrow5 (by simp [Value.ownBlock]) HAB.out.1 HAB.out.2))
          | skip
        rw [Nat.zero_add, List.nil_append] at hown5
        have HO5 := (show Hid (w5.ownsRow w2.heap.size 3 1 v5 0 (ints ([] : List Int))) from hown5)
        have HK5 := (show Hid (Keep [] w2 w5) from hK5)
        clear hown5 hgrow5 hK5
        refine hK.out _ _ (fun _ => HC12.out _ HK5.out) ?_
        clear hK K
        have hHeld := HC12.out _ HK5.out
        try simp only [Act.put, List.setIfInBounds_toArray, List.set_cons_zero, List.set_cons_succ]
        refine wpAnyL_ready (rs := [16]) (by kernel_rfl) (by simp) ?_
        refine AllReadyL.cons (o := ?oo16_28) ?ho16_28 (fun K hK => ?st16_28) AllReadyL.nil
        case ho16_28 => simp only [List.getElem?_toArray, List.getElem?_cons_succ, List.getElem?_cons_zero]; rfl
        case st16_28 =>
          refine step_append_ints rfl (.tmp 62) (.tmp 64) 23 rfl w2.heap.size 3 i0 Tryz.underlying23 hI.out v5 0 ([] : List Int) [(a : Int)] rfl (by first | exact HO5.out | exact HO5.out.alloc _) _ 1 1 rfl rfl (by first | exact HY5.out | exact IntsAt.oneB (heap_alloc_new _ _) HAB.out.1 HAB.out.2) (by simp) (by omega) (by have := HK5.out.size; simp; omega) ?_
          intro v6 w6 hown6 hgrow6
          have hK6 : Keep [] w2 w6 := (show Keep [] w2 _ from by first | exact HK5.out | exact HK5.out.trans (Keep.alloc [] _ _)).grown hgrow6 (own_block HO5.out)
          have HB6 := (show Hid (∀ k, v6.ownBlock = some k → (Value.slice la 0 cc).ownBlock = some k ∨ w2.heap.size ≤ k) from fun k e => .inr (own_block hown6 k e))
          have HM6 := (show Hid (IsMid w6 3 v6 (([] : List Int) ++ [(a : Int)])) from own_mid hown6)
          have HK6 := (show Hid (Keep [] w2 w6) from hK6)
          obtain ⟨l6, d6, hv6⟩ := HM6.out.form
          subst hv6
          clear hown6 hgrow6 hK6
          refine hK.out _ _ (fun _ => HC12.out _ HK6.out) ?_
          clear hK K
          have hHeld := HC12.out _ HK6.out
          try simp only [Act.put, List.setIfInBounds_toArray, List.set_cons_zero, List.set_cons_succ]
          refine wpAnyL_take (i := 17) (oi := ?oi17_29) (v := ?vv17_29) ?hoi17_29 (by kernel_rfl) (by kernel_rfl) (by kernel_rfl) (by kernel_rfl) ?hq17_29 (Or.inl ⟨?hw17_29, ?hy17_29⟩) (by assumption) ?rest17_29
          case hoi17_29 => simp only [List.getElem?_toArray, List.getElem?_cons_succ, List.getElem?_cons_zero]; rfl
          case hq17_29 => exact fun _ _ _ h => h
          case hw17_29 => rfl
          case hy17_29 =>
            intro w hSw
            (try dsimp only at hSw)
            go_simp
            try with_reducible rfl
          try simp only [Act.put, List.setIfInBounds_toArray, List.set_cons_zero, List.set_cons_succ]
          refine wpAnyL_ready (rs := [18]) (by kernel_rfl) (by simp) ?_
          refine AllReadyL.cons (o := ?oo18_30) ?ho18_30 (fun K hK => ?st18_30) AllReadyL.nil
          case ho18_30 => simp only [List.getElem?_toArray, List.getElem?_cons_succ, List.getElem?_cons_zero]; rfl
          case st18_30 =>
            obtain ⟨c16, c26⟩ := HC12.out _ HK6.out
            have f26 := HF2.out _ HK6.out
            go_simp
            refine hK.out _ _ (fun h => absurd rfl h) ?_
            clear hK K
            refine wpAnyL_done (by kernel_rfl) ?_ _
            go_wp2_with fail
            go_ret
            have e2 : (([] : List Int) ++ [(a : Int)]).length = 1 := by simp
            have h5 := HM6.out
            have h6 := HB6.out
            rw [e2] at h5 h6
            exact ⟨rfl, Has.refs (va := some ⟨bb, 0, none⟩) (vc := vc) (by unfold refsR; rw [List.length_set]; exact Has.gput HRN.out HJ.out c2 h5 (HK6.out.mono (by simp)) h6) HQ.out⟩
set_option maxRecDepth 100000 in
set_option maxHeartbeats 8000000 in
theorem fpush_more (j a y : Nat) (L : List Int) (w : World) (h : Has w0 F0 (refsA rb mb S ws kd ds Ls) w) (hL : Ls[j]? = some (L ++ [(y : Int)])) (hA : RefA kd ws a) (hY : RefA kd ws y) (hne : a ≠ y) (hl : L.length < 999999) :
    Calls Tryz.prog 11 #[.pointer (some ⟨rb, 0, none⟩), .int .i64 j, .int .i64 a] w fun e w' => e = .returned (.int .i64 0) ∧ Has w0 F0 (refsA rb mb S ((ws.set (y + 3) (a : Int)).set (a + 3) 0) kd ds (Ls.set j (L ++ [(y : Int)] ++ [(a : Int)]))) w' := by
  obtain ⟨i0, hi, hz0, hz1, hz2⟩ := info_parts Tryz.infoIntQ
  have hI : Hid (Tryz.prog.info? 3 = some i0 ∧ i0.zero = some (.int .i64 0) ∧ i0.size = 1 ∧ i0.bytes = 8) := ⟨hi, hz0, hz1, hz2⟩
  clear hi hz0 hz1 hz2
  have hf := h.fheap.rfine
  have hj := isQ_j hL
  have hx := hA.inI hf
  have hab := hA.place hf
  have ha2 : a ≤ 20000 := by have := hf.len; have := hf.wf.len2; omega
  have HAB := (show Hid (-9223372036854775808 ≤ (a : Int) ∧ (a : Int) ≤ 9223372036854775807) from by show _ ∧ _; omega)
  have HP1 := (show Hid (PutT kd ws (a : Int) 2 0 0 (ws.set (a + 3) 0)) from hA.put hf 0)
  have HQ := (show Hid (QOK (Ls.set j (L ++ [(y : Int)] ++ [(a : Int)]))) from h.fok.set j (by simp; omega) (app_bd ((h.fok.2 _ (List.mem_of_getElem? hL)).2) hx.1 hx.2))
  have HP2 := (show Hid (PutT kd (ws.set (a + 3) 0) (y : Int) 2 (a : Int) 0 ((ws.set (y + 3) (a : Int)).set (a + 3) 0)) from by
    have h1 := (hA.kept hf hY 0).put (hA.fineSet hf inI_0) (a : Int)
    rw [List.set_comm _ _ (by omega)] at h1
    exact h1)
  have HXI := hid hx
  obtain ⟨va, vc, hr⟩ := h.fraw
  obtain ⟨c0, c1, _⟩ := hr.fcells
  have HB := (show Hid (qhasB Ls.length j = true) from qhasB_yes (by omega))
  have HL := hid hL
  have HJ := hid hj
  obtain ⟨bb, v, rfl, c2, _, hm, n1, n2, n3, hp⟩ := hr.grow hL
  have HLR := (show Hid (inR (L ++ [(y : Int)])) from (h.fok.2 _ (List.mem_of_getElem? hL)).2)
  obtain ⟨lq, cc, rfl⟩ := hm.form
  obtain ⟨hI2, _, _, _⟩ := hm.ints HLR.out
  obtain ⟨lg, lo, rfl, hlg, _⟩ := hI2.cells (by simp)
  obtain ⟨q, hq⟩ : ∃ q, L.length = q := ⟨_, rfl⟩
  obtain ⟨p, hp0⟩ : ∃ p, (L ++ [(y : Int)]).length = p := ⟨_, rfl⟩
  have hpq : q < p := by rw [← hp0, List.length_append, hq]; simp
  have hp1 : (p : Int) - 1 = (q : Int) := by rw [← hp0, List.length_append, hq]; simp
  have hp2 : p ≤ 999999 := by rw [← hp0, List.length_append]; simp; omega
  have hdp : decide (0 < p) = true := decide_eq_true (by omega)
  have HPL := (show Hid ((L ++ [(y : Int)]).length = p) from hp0)
  have HLQ := hid hq
  rw [hp0] at c2 hp n1 n2 hm
  have HP := hid hp
  have HH := hid h.fheap
  obtain ⟨ct, hct⟩ := hA.head
  have HT0 := hid hct
  obtain ⟨n, hn⟩ : ∃ n, Ls.length = n := ⟨_, rfl⟩
  rw [hn] at c1 hj HB
  have HN := hid hn
  have HC := hid c1
  have HC0 := hid c0
  clear h hr hL hm hp hA hn hf hab hx hct
  clear hY hI2 hp0 hq
  go_enter Tryz.func11, Tryz.ntmps11
  go_upto_region 6 with (first | (go_at_call 27; refine (fhas _ j _ HC.out).mono ?_; rw [HB.out]; rintro e w1 ⟨rfl, rfl⟩) | (go_at_call 28; refine (fis a 4 ct 5 0 false _ HH.out HC0.out HT0.out).mono ?_; rintro e w1 ⟨rfl, hK1⟩; have c0a := (hK1.cell (lt_of_cell2' c0) (by simp) 0).trans c0) | (go_at_call 29; refine (has_right (HP.out.keep0 hK1) (fun F hF => rput a 2 0 0 _ _ hF HP1.out inI_0)).mono ?_; rintro e w2 ⟨rfl, hP2⟩))
  obtain ⟨hr2, c22⟩ := hP2.unpin
  have HR2 := (show Hid (Has w0 F0 (refsR rb mb S (some ⟨bb, 0, none⟩) vc (ws.set (a + 3) 0) kd ds Ls) w2) from hr2)
  obtain ⟨c02, c12, _⟩ := HR2.out.fcells
  rw [HN.out] at c12
  have HP2' := hid hP2
  clear hr2 hP2 c0a hK1 c0 c1 c2 HP HC HC0 HH HT0 HB
  obtain ⟨_, hm2, _, _, _⟩ := Has.growAt HR2.out HL.out c22
  obtain ⟨hI2, _, _, _⟩ := hm2.ints HLR.out
  obtain ⟨_, _, e, _, hcs⟩ := hI2.cells (by simp)
  cases e
  have hcy := hcs q (by rw [HPL.out]; exact hpq)
  rw [snoc_new L (y : Int) q HLQ.out.symm] at hcy
  clear hm2 hI2 hcs
  have hwq : IntKind.i64.wrap (q : Int) = q := IntWalk.i64_in _ (by omega)
  have hq0i : (0 : Int) ≤ q := by omega
  have hqpi : (q : Int) < p := by omega
  go_upto_region 8 with fail
  go_cut [] from 32 to 48 (fun wz => Hid (Has w0 F0 ((((blockA rb (rObj mb S (some ⟨bb, 0, none⟩) Ls.length vc)).star (llA (some ⟨bb, 0, none⟩) vc Ls)).pin bb j (.slice (some ⟨lg, lo, none⟩) p cc)).star (rheapA mb ((ws.set (y + 3) (a : Int)).set (a + 3) 0) kd ds)) wz))
  case first =>
    go_region_law (first | (go_simp; refine (has_right (HP2'.out.keep0 (Keep.drew [] _)) (fun F hF => rput y 2 a 0 _ _ hF HP2.out HXI.out)).mono ?_; rintro e w3 ⟨rfl, hP3⟩))
    all_goals (go_wp2_with fail)
    all_goals go_meet
    all_goals exact hP3
  case rest =>
  obtain ⟨w3, rfl⟩ : ∃ w3, w3 = wc := ⟨_, rfl⟩
  have HP3 := hcut
  go_upto_region 9 with fail
  have HRN := (show Hid (Has w0 F0 (refsR rb mb S (some ⟨bb, 0, none⟩) vc ((ws.set (y + 3) (a : Int)).set (a + 3) 0) kd ds Ls) w3) from HP3.out.unpin.1)
  have c2 := HP3.out.unpin.2
  obtain ⟨_, c1, _⟩ := HRN.out.fcells
  rw [HN.out] at c1
  obtain ⟨f2, hm2, m1, m2, _⟩ := Has.growAt HRN.out HL.out c2
  obtain ⟨hI2, _, hz2, _⟩ := hm2.ints HLR.out
  have HI := hid hI2
  have HZ := hid hz2
  have hl1 := lt_of_cell2' c1
  have hl2 := lt_of_cell2' c2
  have hji : (j : Int) < n := by omega
  have hj0i : (0 : Int) ≤ j := by omega
  have HC12 := (show Hid (∀ w', Keep [] w3 w' → w'.cell? ⟨rb, 1, none⟩ = some (.slice (some ⟨bb, 0, none⟩) n vc) ∧ w'.cell? ⟨bb, j, none⟩ = some (.slice (some ⟨lg, lo, none⟩) p cc)) from fun w' K => ⟨(K.cell hl1 (by simp) 1).trans c1, (K.cell hl2 (by simp) j).trans c2⟩)
  have HF2 := (show Hid (∀ w', Keep [] w3 w' → w'.frozen? ⟨bb, j, none⟩ = false) from fun w' K => (World.frozen?_of_block (w := w3) (a := ⟨bb, j, none⟩) (K.block bb hl2 (by simp))).trans f2)
  clear hm2 m1 m2 hI2 hz2 HP3 hl1 hl2 f2 c12 c22 c02 HR2 HP2' HP1 HP2 hcy hwq
  refine wp_region_last (S := fun wz => wz.cell? ⟨rb, 1, none⟩ = some (.slice (some ⟨bb, 0, none⟩) n vc) ∧ wz.cell? ⟨bb, j, none⟩ = some (.slice (some ⟨lg, lo, none⟩) p cc)) 18 (by kernel_rfl) (HC12.out _ (Keep.drew [] _)) (fun hHeld => ?_)
  refine wpAnyL_take (i := 0) (oi := ?oi0_1) (v := ?vv0_1) ?hoi0_1 (by kernel_rfl) (by kernel_rfl) (by kernel_rfl) (by kernel_rfl) ?hq0_1 (Or.inl ⟨?hw0_1, ?hy0_1⟩) (by assumption) ?rest0_1
  case hoi0_1 => simp only [List.getElem?_toArray, List.getElem?_cons_zero]; rfl
  case hq0_1 => exact fun _ _ _ h => h
  case hw0_1 => rfl
  case hy0_1 =>
    intro w hSw
    (try dsimp only at hSw)
    go_simp
    try with_reducible rfl
  try simp only [Act.put, List.setIfInBounds_toArray, List.set_cons_zero, List.set_cons_succ]
  refine wpAnyL_take (i := 1) (oi := ?oi1_2) (v := ?vv1_2) ?hoi1_2 (by kernel_rfl) (by kernel_rfl) (by kernel_rfl) (by kernel_rfl) ?hq1_2 (Or.inl ⟨?hw1_2, ?hy1_2⟩) (by assumption) ?rest1_2
  case hoi1_2 => simp only [List.getElem?_toArray, List.getElem?_cons_succ, List.getElem?_cons_zero]; rfl
  case hq1_2 => exact fun _ _ _ h => h
  case hw1_2 => rfl
  case hy1_2 =>
    intro w hSw
    (try dsimp only at hSw)
    go_simp
    try with_reducible rfl
  try simp only [Act.put, List.setIfInBounds_toArray, List.set_cons_zero, List.set_cons_succ]
  refine wpAnyL_take (i := 2) (oi := ?oi2_3) (v := ?vv2_3) ?hoi2_3 (by kernel_rfl) (by kernel_rfl) (by kernel_rfl) (by kernel_rfl) ?hq2_3 (Or.inl ⟨?hw2_3, ?hy2_3⟩) (by assumption) ?rest2_3
  case hoi2_3 => simp only [List.getElem?_toArray, List.getElem?_cons_succ, List.getElem?_cons_zero]; rfl
  case hq2_3 => exact fun _ _ _ h => h
  case hw2_3 => rfl
  case hy2_3 =>
    intro w hSw
    (try dsimp only at hSw)
    go_simp
    try with_reducible rfl
  try simp only [Act.put, List.setIfInBounds_toArray, List.set_cons_zero, List.set_cons_succ]
  refine wpAnyL_take (i := 3) (oi := ?oi3_4) (v := ?vv3_4) ?hoi3_4 (by kernel_rfl) (by kernel_rfl) (by kernel_rfl) (by kernel_rfl) ?hq3_4 (Or.inl ⟨?hw3_4, ?hy3_4⟩) (by assumption) ?rest3_4
  case hoi3_4 => simp only [List.getElem?_toArray, List.getElem?_cons_succ, List.getElem?_cons_zero]; rfl
  case hq3_4 => exact fun _ _ _ h => h
  case hw3_4 => rfl
  case hy3_4 =>
    intro w hSw
    (try dsimp only at hSw)
    go_simp
    try with_reducible rfl
  try simp only [Act.put, List.setIfInBounds_toArray, List.set_cons_zero, List.set_cons_succ]
  refine wpAnyL_take (i := 4) (oi := ?oi4_5) (v := ?vv4_5) ?hoi4_5 (by kernel_rfl) (by kernel_rfl) (by kernel_rfl) (by kernel_rfl) ?hq4_5 (Or.inl ⟨?hw4_5, ?hy4_5⟩) (by assumption) ?rest4_5
  case hoi4_5 => simp only [List.getElem?_toArray, List.getElem?_cons_succ, List.getElem?_cons_zero]; rfl
  case hq4_5 => exact fun _ _ _ h => h
  case hw4_5 => rfl
  case hy4_5 =>
    intro w hSw
    (try dsimp only at hSw)
    go_simp
    try with_reducible rfl
  try simp only [Act.put, List.setIfInBounds_toArray, List.set_cons_zero, List.set_cons_succ]
  refine wpAnyL_take (i := 6) (oi := ?oi6_6) (v := ?vv6_6) ?hoi6_6 (by kernel_rfl) (by kernel_rfl) (by kernel_rfl) (by kernel_rfl) ?hq6_6 (Or.inl ⟨?hw6_6, ?hy6_6⟩) (by assumption) ?rest6_6
  case hoi6_6 => simp only [List.getElem?_toArray, List.getElem?_cons_succ, List.getElem?_cons_zero]; rfl
  case hq6_6 => exact fun _ _ _ h => h
  case hw6_6 => rfl
  case hy6_6 =>
    intro w hSw
    (try dsimp only at hSw)
    go_simp
    try with_reducible rfl
  try simp only [Act.put, List.setIfInBounds_toArray, List.set_cons_zero, List.set_cons_succ]
  refine wpAnyL_take (i := 7) (oi := ?oi7_7) (v := ?vv7_7) ?hoi7_7 (by kernel_rfl) (by kernel_rfl) (by kernel_rfl) (by kernel_rfl) ?hq7_7 (Or.inl ⟨?hw7_7, ?hy7_7⟩) (by assumption) ?rest7_7
  case hoi7_7 => simp only [List.getElem?_toArray, List.getElem?_cons_succ, List.getElem?_cons_zero]; rfl
  case hq7_7 => exact fun _ _ _ h => h
  case hw7_7 => rfl
  case hy7_7 =>
    intro w hSw
    (try dsimp only at hSw)
    go_simp
    try with_reducible rfl
  try simp only [Act.put, List.setIfInBounds_toArray, List.set_cons_zero, List.set_cons_succ]
  refine wpAnyL_take (i := 8) (oi := ?oi8_8) (v := ?vv8_8) ?hoi8_8 (by kernel_rfl) (by kernel_rfl) (by kernel_rfl) (by kernel_rfl) ?hq8_8 (Or.inl ⟨?hw8_8, ?hy8_8⟩) (by assumption) ?rest8_8
  case hoi8_8 => simp only [List.getElem?_toArray, List.getElem?_cons_succ, List.getElem?_cons_zero]; rfl
  case hq8_8 => exact fun _ _ _ h => h
  case hw8_8 => rfl
  case hy8_8 =>
    intro w hSw
    (try dsimp only at hSw)
    go_simp
    try with_reducible rfl
  try simp only [Act.put, List.setIfInBounds_toArray, List.set_cons_zero, List.set_cons_succ]
  refine wpAnyL_take (i := 9) (oi := ?oi9_9) (v := ?vv9_9) ?hoi9_9 (by kernel_rfl) (by kernel_rfl) (by kernel_rfl) (by kernel_rfl) ?hq9_9 (Or.inl ⟨?hw9_9, ?hy9_9⟩) (by assumption) ?rest9_9
  case hoi9_9 => simp only [List.getElem?_toArray, List.getElem?_cons_succ, List.getElem?_cons_zero]; rfl
  case hq9_9 => exact fun _ _ _ h => h
  case hw9_9 => rfl
  case hy9_9 =>
    intro w hSw
    (try dsimp only at hSw)
    go_simp
    try with_reducible rfl
  try simp only [Act.put, List.setIfInBounds_toArray, List.set_cons_zero, List.set_cons_succ]
  refine wpAnyL_take (i := 10) (oi := ?oi10_10) (v := ?vv10_10) ?hoi10_10 (by kernel_rfl) (by kernel_rfl) (by kernel_rfl) (by kernel_rfl) ?hq10_10 (Or.inl ⟨?hw10_10, ?hy10_10⟩) (by assumption) ?rest10_10
  case hoi10_10 => simp only [List.getElem?_toArray, List.getElem?_cons_succ, List.getElem?_cons_zero]; rfl
  case hq10_10 => exact fun _ _ _ h => h
  case hw10_10 => rfl
  case hy10_10 =>
    intro w hSw
    (try dsimp only at hSw)
    go_simp
    try with_reducible rfl
  try simp only [Act.put, List.setIfInBounds_toArray, List.set_cons_zero, List.set_cons_succ]
  refine wpAnyL_take (i := 11) (oi := ?oi11_11) (v := ?vv11_11) ?hoi11_11 (by kernel_rfl) (by kernel_rfl) (by kernel_rfl) (by kernel_rfl) ?hq11_11 (Or.inl ⟨?hw11_11, ?hy11_11⟩) (by assumption) ?rest11_11
  case hoi11_11 => simp only [List.getElem?_toArray, List.getElem?_cons_succ, List.getElem?_cons_zero]; rfl
  case hq11_11 => exact fun _ _ _ h => h
  case hw11_11 => rfl
  case hy11_11 =>
    intro w hSw
    (try dsimp only at hSw)
    go_simp
    try with_reducible rfl
  try simp only [Act.put, List.setIfInBounds_toArray, List.set_cons_zero, List.set_cons_succ]
  refine wpAnyL_take (i := 12) (oi := ?oi12_12) (v := ?vv12_12) ?hoi12_12 (by kernel_rfl) (by kernel_rfl) (by kernel_rfl) (by kernel_rfl) ?hq12_12 (Or.inl ⟨?hw12_12, ?hy12_12⟩) (by assumption) ?rest12_12
  case hoi12_12 => simp only [List.getElem?_toArray, List.getElem?_cons_succ, List.getElem?_cons_zero]; rfl
  case hq12_12 => exact fun _ _ _ h => h
  case hw12_12 => rfl
  case hy12_12 =>
    intro w hSw
    (try dsimp only at hSw)
    go_simp
    try with_reducible rfl
  try simp only [Act.put, List.setIfInBounds_toArray, List.set_cons_zero, List.set_cons_succ]
  refine wpAnyL_take (i := 14) (oi := ?oi14_13) (v := ?vv14_13) ?hoi14_13 (by kernel_rfl) (by kernel_rfl) (by kernel_rfl) (by kernel_rfl) ?hq14_13 (Or.inl ⟨?hw14_13, ?hy14_13⟩) (by assumption) ?rest14_13
  case hoi14_13 => simp only [List.getElem?_toArray, List.getElem?_cons_succ, List.getElem?_cons_zero]; rfl
  case hq14_13 => exact fun _ _ _ h => h
  case hw14_13 => rfl
  case hy14_13 =>
    intro w hSw
    (try dsimp only at hSw)
    go_simp
    try with_reducible rfl
  try simp only [Act.put, List.setIfInBounds_toArray, List.set_cons_zero, List.set_cons_succ]
  refine wpAnyL_ready (rs := [5, 15]) (by kernel_rfl) (by simp) ?_
  refine AllReadyL.cons (o := ?oo5_15) ?ho5_15 (fun K hK => ?st5_15) (AllReadyL.cons (o := ?oo15_14) ?ho15_14 (fun K hK => ?st15_14) AllReadyL.nil)
  case ho5_15 => simp only [List.getElem?_toArray, List.getElem?_cons_succ, List.getElem?_cons_zero]; rfl
  case ho15_14 => simp only [List.getElem?_toArray, List.getElem?_cons_succ, List.getElem?_cons_zero]; rfl
  case st5_15 =>
    go_simp
    have hHeld := HC12.out _ (show Keep [] w3 (w3.drew.alloc (.cells #[] 3)) from (Keep.drew [] _).trans (Keep.alloc [] _ _))
    refine hK.out _ _ (fun _ => hHeld) ?_
    clear hK K
    try simp only [Act.put, List.setIfInBounds_toArray, List.set_cons_zero, List.set_cons_succ]
    refine wpAnyL_ready (rs := [13, 15]) (by kernel_rfl) (by simp) ?_
    refine AllReadyL.cons (o := ?oo13_17) ?ho13_17 (fun K hK => ?st13_17) (AllReadyL.cons (o := ?oo15_16) ?ho15_16 (fun K hK => ?st15_16) AllReadyL.nil)
    case ho13_17 => simp only [List.getElem?_toArray, List.getElem?_cons_succ, List.getElem?_cons_zero]; rfl
    case ho15_16 => simp only [List.getElem?_toArray, List.getElem?_cons_succ, List.getElem?_cons_zero]; rfl
    case st13_17 =>
      refine step_append_ints rfl (.tmp 54) (.tmp 61) 23 rfl w3.heap.size 3 i0 Tryz.underlying23 hI.out (.slice (some ⟨_, 0, none⟩) 0 0) 0 [] (L ++ [(y : Int)]) rfl (own_emptyB (by first | exact mA _ _ | exact mB _ _ _ | exact mC _ _ _) (by omega)) (some ⟨lg, lo, none⟩) p cc HPL.out rfl (HI.out.keep (S := []) (by first | exact (Keep.drew [] _).trans (Keep.alloc [] _ _) | exact ((Keep.drew [] _).trans (Keep.alloc [] _ _)).trans (Keep.alloc [] _ _)) (fun _ _ _ => by simp)) HZ.out (by omega) (by first | (simp; done) | (simp; omega)) ?_
      intro v5 w5 hown5 hgrow5
      have hK5 : Keep [] w3 w5 := (show Keep [] w3 _ from by first | exact (Keep.drew [] _).trans (Keep.alloc [] _ _) | exact ((Keep.drew [] _).trans (Keep.alloc [] _ _)).trans (Keep.alloc [] _ _)).grown hgrow5 (fun z e => by simp [Value.ownBlock] at e; omega)
      first
        | (have HY5 := (show Hid (IntsAt w5 (some ⟨w3.heap.size + 1, 0, none⟩) [(a : Int)]) from IntsAt.grew (mC _ _ _) hgrow5 (by simp [Value.ownBlock]) HAB.out.1 HAB.out.2))
        | (have HY5 := (show Hid (IntsAt w5 (some ⟨w3.heap.size, 0, none⟩) [(a : Int)]) from IntsAt.grew (mB _ _ _) hgrow5 (by simp [Value.ownBlock]) HAB.out.1 HAB.out.2))
        | skip
      rw [Nat.zero_add, List.nil_append] at hown5
      have HO5 := (show Hid (w5.ownsRow w3.heap.size 3 1 v5 p (ints (L ++ [(y : Int)]))) from hown5)
      have HK5 := (show Hid (Keep [] w3 w5) from hK5)
      clear hown5 hgrow5 hK5
      refine hK.out _ _ (fun _ => HC12.out _ HK5.out) ?_
      clear hK K
      have hHeld := HC12.out _ HK5.out
      try simp only [Act.put, List.setIfInBounds_toArray, List.set_cons_zero, List.set_cons_succ]
      refine wpAnyL_ready (rs := [15]) (by kernel_rfl) (by simp) ?_
      refine AllReadyL.cons (o := ?oo15_18) ?ho15_18 (fun K hK => ?st15_18) AllReadyL.nil
      case ho15_18 => simp only [List.getElem?_toArray, List.getElem?_cons_succ, List.getElem?_cons_zero]; rfl
      case st15_18 =>
        go_simp
        have hHeld := HC12.out _ (show Keep [] w3 (w5.alloc (.cells #[.int .i64 (a : Int)] 3)) from HK5.out.trans (Keep.alloc [] _ _))
        refine hK.out _ _ (fun _ => hHeld) ?_
        clear hK K
        try simp only [Act.put, List.setIfInBounds_toArray, List.set_cons_zero, List.set_cons_succ]
        refine wpAnyL_ready (rs := [16]) (by kernel_rfl) (by simp) ?_
        refine AllReadyL.cons (o := ?oo16_19) ?ho16_19 (fun K hK => ?st16_19) AllReadyL.nil
        case ho16_19 => simp only [List.getElem?_toArray, List.getElem?_cons_succ, List.getElem?_cons_zero]; rfl
        case st16_19 =>
          refine step_append_ints rfl (.tmp 62) (.tmp 64) 23 rfl w3.heap.size 3 i0 Tryz.underlying23 hI.out v5 p (L ++ [(y : Int)]) [(a : Int)] rfl (by first | exact HO5.out | exact HO5.out.alloc _) _ 1 1 rfl rfl (by first | exact HY5.out | exact IntsAt.oneB (heap_alloc_new _ _) HAB.out.1 HAB.out.2) (by simp) (by omega) (by have := HK5.out.size; simp; omega) ?_
          intro v6 w6 hown6 hgrow6
          have hK6 : Keep [] w3 w6 := (show Keep [] w3 _ from by first | exact HK5.out | exact HK5.out.trans (Keep.alloc [] _ _)).grown hgrow6 (own_block HO5.out)
          have HB6 := (show Hid (∀ k, v6.ownBlock = some k → (Value.slice (some ⟨lg, lo, none⟩) p cc).ownBlock = some k ∨ w3.heap.size ≤ k) from fun k e => .inr (own_block hown6 k e))
          have HM6 := (show Hid (IsMid w6 3 v6 ((L ++ [(y : Int)]) ++ [(a : Int)])) from own_mid hown6)
          have HK6 := (show Hid (Keep [] w3 w6) from hK6)
          obtain ⟨l6, d6, hv6⟩ := HM6.out.form
          subst hv6
          clear hown6 hgrow6 hK6
          refine hK.out _ _ (fun _ => HC12.out _ HK6.out) ?_
          clear hK K
          have hHeld := HC12.out _ HK6.out
          try simp only [Act.put, List.setIfInBounds_toArray, List.set_cons_zero, List.set_cons_succ]
          refine wpAnyL_take (i := 17) (oi := ?oi17_20) (v := ?vv17_20) ?hoi17_20 (by kernel_rfl) (by kernel_rfl) (by kernel_rfl) (by kernel_rfl) ?hq17_20 (Or.inl ⟨?hw17_20, ?hy17_20⟩) (by assumption) ?rest17_20
          case hoi17_20 => simp only [List.getElem?_toArray, List.getElem?_cons_succ, List.getElem?_cons_zero]; rfl
          case hq17_20 => exact fun _ _ _ h => h
          case hw17_20 => rfl
          case hy17_20 =>
            intro w hSw
            (try dsimp only at hSw)
            go_simp
            try with_reducible rfl
          try simp only [Act.put, List.setIfInBounds_toArray, List.set_cons_zero, List.set_cons_succ]
          refine wpAnyL_ready (rs := [18]) (by kernel_rfl) (by simp) ?_
          refine AllReadyL.cons (o := ?oo18_21) ?ho18_21 (fun K hK => ?st18_21) AllReadyL.nil
          case ho18_21 => simp only [List.getElem?_toArray, List.getElem?_cons_succ, List.getElem?_cons_zero]; rfl
          case st18_21 =>
            obtain ⟨c16, c26⟩ := HC12.out _ HK6.out
            have f26 := HF2.out _ HK6.out
            go_simp
            refine hK.out _ _ (fun h => absurd rfl h) ?_
            clear hK K
            refine wpAnyL_done (by kernel_rfl) ?_ _
            go_wp2_with fail
            go_ret
            have e2 : ((L ++ [(y : Int)]) ++ [(a : Int)]).length = L.length + 2 := by simp
            have h5 := HM6.out
            have h6 := HB6.out
            rw [e2] at h5 h6
            exact ⟨rfl, Has.refs (va := some ⟨bb, 0, none⟩) (vc := vc) (by unfold refsR; rw [List.length_set]; exact Has.gput HRN.out HJ.out c2 h5 (HK6.out.mono (by simp)) h6) HQ.out⟩
    case st15_16 =>
      go_simp
      have hHeld := HC12.out _ (show Keep [] w3 ((w3.drew.alloc (.cells #[] 3)).alloc (.cells #[.int .i64 (a : Int)] 3)) from ((Keep.drew [] _).trans (Keep.alloc [] _ _)).trans (Keep.alloc [] _ _))
      refine hK.out _ _ (fun _ => hHeld) ?_
      clear hK K
      try simp only [Act.put, List.setIfInBounds_toArray, List.set_cons_zero, List.set_cons_succ]
      refine wpAnyL_ready (rs := [13]) (by kernel_rfl) (by simp) ?_
      refine AllReadyL.cons (o := ?oo13_22) ?ho13_22 (fun K hK => ?st13_22) AllReadyL.nil
      case ho13_22 => simp only [List.getElem?_toArray, List.getElem?_cons_succ, List.getElem?_cons_zero]; rfl
      case st13_22 =>
        refine step_append_ints rfl (.tmp 54) (.tmp 61) 23 rfl w3.heap.size 3 i0 Tryz.underlying23 hI.out (.slice (some ⟨_, 0, none⟩) 0 0) 0 [] (L ++ [(y : Int)]) rfl (own_emptyB (by first | exact mA _ _ | exact mB _ _ _ | exact mC _ _ _) (by omega)) (some ⟨lg, lo, none⟩) p cc HPL.out rfl (HI.out.keep (S := []) (by first | exact (Keep.drew [] _).trans (Keep.alloc [] _ _) | exact ((Keep.drew [] _).trans (Keep.alloc [] _ _)).trans (Keep.alloc [] _ _)) (fun _ _ _ => by simp)) HZ.out (by omega) (by first | (simp; done) | (simp; omega)) ?_
        intro v5 w5 hown5 hgrow5
        have hK5 : Keep [] w3 w5 := (show Keep [] w3 _ from by first | exact (Keep.drew [] _).trans (Keep.alloc [] _ _) | exact ((Keep.drew [] _).trans (Keep.alloc [] _ _)).trans (Keep.alloc [] _ _)).grown hgrow5 (fun z e => by simp [Value.ownBlock] at e; omega)
        first
          | (have HY5 := (show Hid (IntsAt w5 (some ⟨w3.heap.size + 1, 0, none⟩) [(a : Int)]) from IntsAt.grew (mC _ _ _) hgrow5 (by simp [Value.ownBlock]) HAB.out.1 HAB.out.2))
          | (have HY5 := (show Hid (IntsAt w5 (some ⟨w3.heap.size, 0, none⟩) [(a : Int)]) from IntsAt.grew (mB _ _ _) hgrow5 (by simp [Value.ownBlock]) HAB.out.1 HAB.out.2))
          | skip
        rw [Nat.zero_add, List.nil_append] at hown5
        have HO5 := (show Hid (w5.ownsRow w3.heap.size 3 1 v5 p (ints (L ++ [(y : Int)]))) from hown5)
        have HK5 := (show Hid (Keep [] w3 w5) from hK5)
        clear hown5 hgrow5 hK5
        refine hK.out _ _ (fun _ => HC12.out _ HK5.out) ?_
        clear hK K
        have hHeld := HC12.out _ HK5.out
        try simp only [Act.put, List.setIfInBounds_toArray, List.set_cons_zero, List.set_cons_succ]
        refine wpAnyL_ready (rs := [16]) (by kernel_rfl) (by simp) ?_
        refine AllReadyL.cons (o := ?oo16_23) ?ho16_23 (fun K hK => ?st16_23) AllReadyL.nil
        case ho16_23 => simp only [List.getElem?_toArray, List.getElem?_cons_succ, List.getElem?_cons_zero]; rfl
        case st16_23 =>
          refine step_append_ints rfl (.tmp 62) (.tmp 64) 23 rfl w3.heap.size 3 i0 Tryz.underlying23 hI.out v5 p (L ++ [(y : Int)]) [(a : Int)] rfl (by first | exact HO5.out | exact HO5.out.alloc _) _ 1 1 rfl rfl (by first | exact HY5.out | exact IntsAt.oneB (heap_alloc_new _ _) HAB.out.1 HAB.out.2) (by simp) (by omega) (by have := HK5.out.size; simp; omega) ?_
          intro v6 w6 hown6 hgrow6
          have hK6 : Keep [] w3 w6 := (show Keep [] w3 _ from by first | exact HK5.out | exact HK5.out.trans (Keep.alloc [] _ _)).grown hgrow6 (own_block HO5.out)
          have HB6 := (show Hid (∀ k, v6.ownBlock = some k → (Value.slice (some ⟨lg, lo, none⟩) p cc).ownBlock = some k ∨ w3.heap.size ≤ k) from fun k e => .inr (own_block hown6 k e))
          have HM6 := (show Hid (IsMid w6 3 v6 ((L ++ [(y : Int)]) ++ [(a : Int)])) from own_mid hown6)
          have HK6 := (show Hid (Keep [] w3 w6) from hK6)
          obtain ⟨l6, d6, hv6⟩ := HM6.out.form
          subst hv6
          clear hown6 hgrow6 hK6
          refine hK.out _ _ (fun _ => HC12.out _ HK6.out) ?_
          clear hK K
          have hHeld := HC12.out _ HK6.out
          try simp only [Act.put, List.setIfInBounds_toArray, List.set_cons_zero, List.set_cons_succ]
          refine wpAnyL_take (i := 17) (oi := ?oi17_24) (v := ?vv17_24) ?hoi17_24 (by kernel_rfl) (by kernel_rfl) (by kernel_rfl) (by kernel_rfl) ?hq17_24 (Or.inl ⟨?hw17_24, ?hy17_24⟩) (by assumption) ?rest17_24
          case hoi17_24 => simp only [List.getElem?_toArray, List.getElem?_cons_succ, List.getElem?_cons_zero]; rfl
          case hq17_24 => exact fun _ _ _ h => h
          case hw17_24 => rfl
          case hy17_24 =>
            intro w hSw
            (try dsimp only at hSw)
            go_simp
            try with_reducible rfl
          try simp only [Act.put, List.setIfInBounds_toArray, List.set_cons_zero, List.set_cons_succ]
          refine wpAnyL_ready (rs := [18]) (by kernel_rfl) (by simp) ?_
          refine AllReadyL.cons (o := ?oo18_25) ?ho18_25 (fun K hK => ?st18_25) AllReadyL.nil
          case ho18_25 => simp only [List.getElem?_toArray, List.getElem?_cons_succ, List.getElem?_cons_zero]; rfl
          case st18_25 =>
            obtain ⟨c16, c26⟩ := HC12.out _ HK6.out
            have f26 := HF2.out _ HK6.out
            go_simp
            refine hK.out _ _ (fun h => absurd rfl h) ?_
            clear hK K
            refine wpAnyL_done (by kernel_rfl) ?_ _
            go_wp2_with fail
            go_ret
            have e2 : ((L ++ [(y : Int)]) ++ [(a : Int)]).length = L.length + 2 := by simp
            have h5 := HM6.out
            have h6 := HB6.out
            rw [e2] at h5 h6
            exact ⟨rfl, Has.refs (va := some ⟨bb, 0, none⟩) (vc := vc) (by unfold refsR; rw [List.length_set]; exact Has.gput HRN.out HJ.out c2 h5 (HK6.out.mono (by simp)) h6) HQ.out⟩
  case st15_14 =>
    go_simp
    have hHeld := HC12.out _ (show Keep [] w3 (w3.drew.alloc (.cells #[.int .i64 (a : Int)] 3)) from (Keep.drew [] _).trans (Keep.alloc [] _ _))
    refine hK.out _ _ (fun _ => hHeld) ?_
    clear hK K
    try simp only [Act.put, List.setIfInBounds_toArray, List.set_cons_zero, List.set_cons_succ]
    refine wpAnyL_ready (rs := [5]) (by kernel_rfl) (by simp) ?_
    refine AllReadyL.cons (o := ?oo5_26) ?ho5_26 (fun K hK => ?st5_26) AllReadyL.nil
    case ho5_26 => simp only [List.getElem?_toArray, List.getElem?_cons_succ, List.getElem?_cons_zero]; rfl
    case st5_26 =>
      go_simp
      have hHeld := HC12.out _ (show Keep [] w3 ((w3.drew.alloc (.cells #[.int .i64 (a : Int)] 3)).alloc (.cells #[] 3)) from ((Keep.drew [] _).trans (Keep.alloc [] _ _)).trans (Keep.alloc [] _ _))
      refine hK.out _ _ (fun _ => hHeld) ?_
      clear hK K
      try simp only [Act.put, List.setIfInBounds_toArray, List.set_cons_zero, List.set_cons_succ]
      refine wpAnyL_ready (rs := [13]) (by kernel_rfl) (by simp) ?_
      refine AllReadyL.cons (o := ?oo13_27) ?ho13_27 (fun K hK => ?st13_27) AllReadyL.nil
      case ho13_27 => simp only [List.getElem?_toArray, List.getElem?_cons_succ, List.getElem?_cons_zero]; rfl
      case st13_27 =>
        refine step_append_ints rfl (.tmp 54) (.tmp 61) 23 rfl w3.heap.size 3 i0 Tryz.underlying23 hI.out (.slice (some ⟨_, 0, none⟩) 0 0) 0 [] (L ++ [(y : Int)]) rfl (own_emptyB (by first | exact mA _ _ | exact mB _ _ _ | exact mC _ _ _) (by omega)) (some ⟨lg, lo, none⟩) p cc HPL.out rfl (HI.out.keep (S := []) (by first | exact (Keep.drew [] _).trans (Keep.alloc [] _ _) | exact ((Keep.drew [] _).trans (Keep.alloc [] _ _)).trans (Keep.alloc [] _ _)) (fun _ _ _ => by simp)) HZ.out (by omega) (by first | (simp; done) | (simp; omega)) ?_
        intro v5 w5 hown5 hgrow5
        have hK5 : Keep [] w3 w5 := (show Keep [] w3 _ from by first | exact (Keep.drew [] _).trans (Keep.alloc [] _ _) | exact ((Keep.drew [] _).trans (Keep.alloc [] _ _)).trans (Keep.alloc [] _ _)).grown hgrow5 (fun z e => by simp [Value.ownBlock] at e; omega)
        first
          | (have HY5 := (show Hid (IntsAt w5 (some ⟨w3.heap.size + 1, 0, none⟩) [(a : Int)]) from IntsAt.grew (mC _ _ _) hgrow5 (by simp [Value.ownBlock]) HAB.out.1 HAB.out.2))
          | (have HY5 := (show Hid (IntsAt w5 (some ⟨w3.heap.size, 0, none⟩) [(a : Int)]) from IntsAt.grew (mB _ _ _) hgrow5 (by simp [Value.ownBlock]) HAB.out.1 HAB.out.2))
          | skip
        rw [Nat.zero_add, List.nil_append] at hown5
        have HO5 := (show Hid (w5.ownsRow w3.heap.size 3 1 v5 p (ints (L ++ [(y : Int)]))) from hown5)
        have HK5 := (show Hid (Keep [] w3 w5) from hK5)
        clear hown5 hgrow5 hK5
        refine hK.out _ _ (fun _ => HC12.out _ HK5.out) ?_
        clear hK K
        have hHeld := HC12.out _ HK5.out
        try simp only [Act.put, List.setIfInBounds_toArray, List.set_cons_zero, List.set_cons_succ]
        refine wpAnyL_ready (rs := [16]) (by kernel_rfl) (by simp) ?_
        refine AllReadyL.cons (o := ?oo16_28) ?ho16_28 (fun K hK => ?st16_28) AllReadyL.nil
        case ho16_28 => simp only [List.getElem?_toArray, List.getElem?_cons_succ, List.getElem?_cons_zero]; rfl
        case st16_28 =>
          refine step_append_ints rfl (.tmp 62) (.tmp 64) 23 rfl w3.heap.size 3 i0 Tryz.underlying23 hI.out v5 p (L ++ [(y : Int)]) [(a : Int)] rfl (by first | exact HO5.out | exact HO5.out.alloc _) _ 1 1 rfl rfl (by first | exact HY5.out | exact IntsAt.oneB (heap_alloc_new _ _) HAB.out.1 HAB.out.2) (by simp) (by omega) (by have := HK5.out.size; simp; omega) ?_
          intro v6 w6 hown6 hgrow6
          have hK6 : Keep [] w3 w6 := (show Keep [] w3 _ from by first | exact HK5.out | exact HK5.out.trans (Keep.alloc [] _ _)).grown hgrow6 (own_block HO5.out)
          have HB6 := (show Hid (∀ k, v6.ownBlock = some k → (Value.slice (some ⟨lg, lo, none⟩) p cc).ownBlock = some k ∨ w3.heap.size ≤ k) from fun k e => .inr (own_block hown6 k e))
          have HM6 := (show Hid (IsMid w6 3 v6 ((L ++ [(y : Int)]) ++ [(a : Int)])) from own_mid hown6)
          have HK6 := (show Hid (Keep [] w3 w6) from hK6)
          obtain ⟨l6, d6, hv6⟩ := HM6.out.form
          subst hv6
          clear hown6 hgrow6 hK6
          refine hK.out _ _ (fun _ => HC12.out _ HK6.out) ?_
          clear hK K
          have hHeld := HC12.out _ HK6.out
          try simp only [Act.put, List.setIfInBounds_toArray, List.set_cons_zero, List.set_cons_succ]
          refine wpAnyL_take (i := 17) (oi := ?oi17_29) (v := ?vv17_29) ?hoi17_29 (by kernel_rfl) (by kernel_rfl) (by kernel_rfl) (by kernel_rfl) ?hq17_29 (Or.inl ⟨?hw17_29, ?hy17_29⟩) (by assumption) ?rest17_29
          case hoi17_29 => simp only [List.getElem?_toArray, List.getElem?_cons_succ, List.getElem?_cons_zero]; rfl
          case hq17_29 => exact fun _ _ _ h => h
          case hw17_29 => rfl
          case hy17_29 =>
            intro w hSw
            (try dsimp only at hSw)
            go_simp
            try with_reducible rfl
          try simp only [Act.put, List.setIfInBounds_toArray, List.set_cons_zero, List.set_cons_succ]
          refine wpAnyL_ready (rs := [18]) (by kernel_rfl) (by simp) ?_
          refine AllReadyL.cons (o := ?oo18_30) ?ho18_30 (fun K hK => ?st18_30) AllReadyL.nil
          case ho18_30 => simp only [List.getElem?_toArray, List.getElem?_cons_succ, List.getElem?_cons_zero]; rfl
          case st18_30 =>
            obtain ⟨c16, c26⟩ := HC12.out _ HK6.out
            have f26 := HF2.out _ HK6.out
            go_simp
            refine hK.out _ _ (fun h => absurd rfl h) ?_
            clear hK K
            refine wpAnyL_done (by kernel_rfl) ?_ _
            go_wp2_with fail
            go_ret
            have e2 : ((L ++ [(y : Int)]) ++ [(a : Int)]).length = L.length + 2 := by simp
            have h5 := HM6.out
            have h6 := HB6.out
            rw [e2] at h5 h6
            exact ⟨rfl, Has.refs (va := some ⟨bb, 0, none⟩) (vc := vc) (by unfold refsR; rw [List.length_set]; exact Has.gput HRN.out HJ.out c2 h5 (HK6.out.mono (by simp)) h6) HQ.out⟩
end

end Go.Proofs.YtdpkmebckholnaaGreat

/-
  The document's own references: what Poll answers and leaves.
-/
namespace Go.Proofs.YtdpkmebckholnaaGreat
open Go.RowKit

theorem has_right_star {w0 w : World} {F0 : List Nat} {A B C : Asn} (h : Has w0 F0 ((A.star B).star C) w) : Has w0 F0 (B.star (C.star A)) w :=
  h.assoc.comm.assoc
theorem has_back_star {w0 w : World} {F0 : List Nat} {A B C : Asn} (h : Has w0 F0 (B.star (C.star A)) w) : Has w0 F0 ((A.star B).star C) w :=
  h.assoc'.comm.assoc'
section
variable {w0 : World} {F0 : List Nat} {rb mb : Nat} {S : Int} {va : Option Addr} {vc : Nat} {ws : List Int} {kd : List PK} {ds : List (Int × List Int)} {Ls : List (List Int)}

set_option maxHeartbeats 1600000 in
theorem fpoll_none (i : Int) (w : World) (h : Has w0 F0 (refsA rb mb S ws kd ds Ls) w) (hi : ¬ IsQ Ls i) :
    Calls Tryz.prog 14 #[.pointer (some ⟨rb, 0, none⟩), .int .i64 i] w fun e w' => e = .returned (.agg #[.int .i64 0, .int .i64 2]) ∧ Keep [] w w' := by
  have hK := Keep.alloc [] w (.cells #[.int .i64 0, .int .i64 0] 39)
  have hx := heap_alloc_new w (.cells #[.int .i64 0, .int .i64 0] 39)
  obtain ⟨va, vc, hr⟩ := h.fraw
  obtain ⟨_, c1, _⟩ := (hr.keep0 hK).fcells
  have HB := (show Hid (qhasB Ls.length i = false) from qhasB_no hi)
  clear h hr hi
  go_enter Tryz.func14, Tryz.ntmps14
  go_upto_region 1 with fail
  generalize w.alloc (.cells #[.int .i64 0, .int .i64 0] 39) = w1 at *
  obtain ⟨bx, hbx⟩ : ∃ bx, w.heap.size = bx := ⟨_, rfl⟩
  have HBX := hid hbx
  rw [hbx] at hx ⊢
  have HC := hid c1
  clear hbx c1
  obtain ⟨f0, f1⟩ := two_free hx
  obtain ⟨d0, d1⟩ := two_cells hx
  go_wp2_with (first | (go_at_call 27; refine (fhas _ i _ HC.out).mono ?_; rw [HB.out]; rintro e w2 ⟨rfl, rfl⟩))
  obtain ⟨z, hk4⟩ := two_put hx (.int .i64 0) (.int .i64 2)
  refine bodyPost_ret (results_cell_row rfl _ _ bx 39 #[.int .i64 0, .int .i64 2] (0, 0) _ rfl z Tryz.underlying39 rfl (by kernel_rfl)) rfl ?_
  exact ⟨rfl, ((hK.mono (T := [bx]) (by simp)).trans hk4).drop (by have := HBX.out; simp; omega)⟩
set_option maxHeartbeats 1600000 in
theorem fpoll_empty (j : Nat) (w : World) (h : Has w0 F0 (refsA rb mb S ws kd ds Ls) w) (hL : Ls[j]? = some []) :
    Calls Tryz.prog 14 #[.pointer (some ⟨rb, 0, none⟩), .int .i64 j] w fun e w' => e = .returned (.agg #[.int .i64 0, .int .i64 0]) ∧ Keep [] w w' := by
  have hK := Keep.alloc [] w (.cells #[.int .i64 0, .int .i64 0] 39)
  have hx := heap_alloc_new w (.cells #[.int .i64 0, .int .i64 0] 39)
  obtain ⟨va, vc, hr⟩ := h.fraw
  obtain ⟨_, c1, _⟩ := (hr.keep0 hK).fcells
  have hj := isQ_j hL
  have HB := (show Hid (qhasB Ls.length j = true) from qhasB_yes (by omega))
  obtain ⟨bb, v, rfl, c2, _, hm, _⟩ := (hr.keep0 hK).grow hL
  obtain ⟨la, cc, rfl⟩ := hm.form
  rw [List.length_nil] at c2
  obtain ⟨n, hn⟩ : ∃ n, Ls.length = n := ⟨_, rfl⟩
  rw [hn] at c1 hj HB
  clear h hr hL hm hn
  go_enter Tryz.func14, Tryz.ntmps14
  go_upto_region 1 with fail
  generalize w.alloc (.cells #[.int .i64 0, .int .i64 0] 39) = w1 at *
  obtain ⟨bx, hbx⟩ : ∃ bx, w.heap.size = bx := ⟨_, rfl⟩
  have HBX := hid hbx
  rw [hbx] at hx ⊢
  have HC := hid c1
  clear hbx
  obtain ⟨f0, f1⟩ := two_free hx
  obtain ⟨d0, d1⟩ := two_cells hx
  go_wp2_with (first | (go_at_call 27; refine (fhas _ j _ HC.out).mono ?_; rw [HB.out]; rintro e w2 ⟨rfl, rfl⟩))
  obtain ⟨z, hk4⟩ := two_put hx (.int .i64 0) (.int .i64 0)
  refine bodyPost_ret (results_cell_row rfl _ _ bx 39 #[.int .i64 0, .int .i64 0] (0, 0) _ rfl z Tryz.underlying39 rfl (by kernel_rfl)) rfl ?_
  exact ⟨rfl, ((hK.mono (T := [bx]) (by simp)).trans hk4).drop (by have := HBX.out; simp; omega)⟩
set_option maxRecDepth 100000 in
set_option maxHeartbeats 8000000 in
theorem fpoll_yes (j a : Nat) (L : List Int) (w : World) (h : Has w0 F0 (refsA rb mb S ws kd ds Ls) w) (hL : Ls[j]? = some ((a : Int) :: L)) (hA : RefA kd ws a) :
    Calls Tryz.prog 14 #[.pointer (some ⟨rb, 0, none⟩), .int .i64 j] w fun e w' => e = .returned (.agg #[.int .i64 a, .int .i64 0]) ∧ Has w0 F0 (refsA rb mb S (ws.set (a + 3) 0) kd ds (Ls.set j L)) w' := by
  obtain ⟨i0, hi, hz0, hz1, hz2⟩ := info_parts Tryz.infoIntQ
  have hI : Hid (Tryz.prog.info? 3 = some i0 ∧ i0.zero = some (.int .i64 0) ∧ i0.size = 1 ∧ i0.bytes = 8) := ⟨hi, hz0, hz1, hz2⟩
  clear hi hz0 hz1 hz2
  have hf := h.fheap.rfine
  have hj := isQ_j hL
  have hab := hA.place hf
  have ha2 : a ≤ 20000 := by have := hf.len; have := hf.wf.len2; omega
  have HP1 := (show Hid (PutT kd ws (a : Int) 2 0 0 (ws.set (a + 3) 0)) from hA.put hf 0)
  have hLq := h.fok.2 _ (List.mem_of_getElem? hL)
  have HQ := (show Hid (QOK (Ls.set j L)) from h.fok.set j (by have := hLq.1; simp at this; omega) (fun i => by have := hLq.2 (i + 1); simpa using this))
  obtain ⟨va, vc, hr⟩ := h.fraw
  have hx := hr.newB (.cells #[.int .i64 0, .int .i64 0] 39)
  have hK := Keep.alloc [] w (.cells #[.int .i64 0, .int .i64 0] 39)
  have HB := (show Hid (qhasB Ls.length j = true) from qhasB_yes (by omega))
  have HL := hid hL
  have HJ := hid hj
  obtain ⟨n, hn⟩ : ∃ n, Ls.length = n := ⟨_, rfl⟩
  have HN := hid hn
  rw [hn] at hj HB
  have HLR := (show Hid (inR ((a : Int) :: L)) from hLq.2)
  have HLL := (show Hid (((a : Int) :: L).length ≤ 1000000) from hLq.1)
  clear h hA hn hf hab hr hK hLq
  go_enter Tryz.func14, Tryz.ntmps14
  go_upto_region 1 with fail
  generalize w.alloc (.cells #[.int .i64 0, .int .i64 0] 39) = w1 at *
  generalize w.heap.size = bx at *
  obtain ⟨bb, v, rfl, c2, _, hm, n1, n2, n3, _⟩ := Has.grow hx.assoc HL.out
  obtain ⟨lq, cc, rfl⟩ := hm.form
  obtain ⟨hI2, _, hz2, hcc⟩ := hm.ints HLR.out
  obtain ⟨lg, lo, rfl, hlg, hcs⟩ := hI2.cells (by simp)
  have hcy : w1.cell? ⟨lg, lo, none⟩ = some (.int .i64 a) := by have := hcs 0 (by simp); simpa using this
  obtain ⟨_, c1, _⟩ := robj_cells hx.fst.fst.fst
  rw [HN.out] at c1
  obtain ⟨q, hq⟩ : ∃ q, L.length = q := ⟨_, rfl⟩
  obtain ⟨p, hp0⟩ : ∃ p, ((a : Int) :: L).length = p := ⟨_, rfl⟩
  have hpq : p = q + 1 := by rw [← hp0, List.length_cons, hq]
  have hp2 : p ≤ 1000000 := by rw [← hp0]; exact HLL.out
  have hdp : (p == 0) = false := by rw [beq_eq_false_iff_ne]; omega
  have hp3 : 0 < p := by omega
  have hp1i : (1 : Int) ≤ p := by omega
  have HLQ := hid hq
  have HPQ := hid hpq
  rw [hp0] at c2 n1 n2 hm hcc
  have HX := hid hx
  have HC := hid c1
  clear hL hm hI2 hz2 hcs hlg hp0 hq hpq hx
  go_upto_region 6 with (first | (go_at_call 27; refine (fhas _ j _ HC.out).mono ?_; rw [HB.out]; rintro e w2 ⟨rfl, rfl⟩))
  have hmA := (Has.growAt HX.out.assoc HL.out c2)
  obtain ⟨f2, hm2, m1, m2, _⟩ := hmA
  obtain ⟨hI3, _, hz3, _⟩ := hm2.ints HLR.out
  have HI0 := (show Hid (IntsAt w1 (some ⟨lg, lo + 1, none⟩) L) from by show IntsAt _ _ _; have := hI3.drop 1; simpa using this)
  have hl1 := lt_of_cell2' c1
  have hl2 := lt_of_cell2' c2
  have hji : (j : Int) < n := by omega
  have hj0i : (0 : Int) ≤ j := by omega
  have HC12 := (show Hid (∀ w', Keep [] w1 w' → w'.cell? ⟨rb, 1, none⟩ = some (.slice (some ⟨bb, 0, none⟩) n vc) ∧ w'.cell? ⟨bb, j, none⟩ = some (.slice (some ⟨lg, lo, none⟩) p cc)) from fun w' K => ⟨(K.cell hl1 (by simp) 1).trans c1, (K.cell hl2 (by simp) j).trans c2⟩)
  have HF2 := (show Hid (∀ w', Keep [] w1 w' → w'.frozen? ⟨bb, j, none⟩ = false) from fun w' K => (World.frozen?_of_block (w := w1) (a := ⟨bb, j, none⟩) (K.block bb hl2 (by simp))).trans f2)
  clear hm2 m1 m2 hI3 hz3 hl1 hl2 f2 HC HB n1 n2 hcy
  by_cases hc1 : cc = 1
  · have HLN := (show Hid (L = [] ∧ p = 1 ∧ cc = 1) from by
      have := HPQ.out
      have := HLQ.out
      exact ⟨List.length_eq_zero_iff.1 (by omega), by omega, hc1⟩)
    obtain ⟨hln, hp1, _⟩ := HLN.out
    subst hc1
    subst hp1
    have HI := (show Hid (IntsAt w1 (some ⟨lg, lo, none⟩) L) from by show IntsAt _ _ _; rw [hln]; exact IntsAt.nil _ _)
    have HL0 := (show Hid (L.length = 0) from by show L.length = 0; rw [hln]; rfl)
    clear hln HLN HI0
    refine wp_region_last (S := fun wz => wz.cell? ⟨rb, 1, none⟩ = some (.slice (some ⟨bb, 0, none⟩) n vc) ∧ wz.cell? ⟨bb, j, none⟩ = some (.slice (some ⟨lg, lo, none⟩) 1 1)) 16 (by kernel_rfl) (HC12.out _ (Keep.drew [] _)) (fun hHeld => ?_)
    refine wpAnyL_take (i := 0) (oi := ?oi0_1) (v := ?vv0_1) ?hoi0_1 (by kernel_rfl) (by kernel_rfl) (by kernel_rfl) (by kernel_rfl) ?hq0_1 (Or.inl ⟨?hw0_1, ?hy0_1⟩) (by assumption) ?rest0_1
    case hoi0_1 => simp only [List.getElem?_toArray, List.getElem?_cons_zero]; rfl
    case hq0_1 => exact fun _ _ _ h => h
    case hw0_1 => rfl
    case hy0_1 =>
      intro w hSw
      (try dsimp only at hSw)
      go_simp
      try with_reducible rfl
    try simp only [Act.put, List.setIfInBounds_toArray, List.set_cons_zero, List.set_cons_succ]
    refine wpAnyL_take (i := 1) (oi := ?oi1_2) (v := ?vv1_2) ?hoi1_2 (by kernel_rfl) (by kernel_rfl) (by kernel_rfl) (by kernel_rfl) ?hq1_2 (Or.inl ⟨?hw1_2, ?hy1_2⟩) (by assumption) ?rest1_2
    case hoi1_2 => simp only [List.getElem?_toArray, List.getElem?_cons_succ, List.getElem?_cons_zero]; rfl
    case hq1_2 => exact fun _ _ _ h => h
    case hw1_2 => rfl
    case hy1_2 =>
      intro w hSw
      (try dsimp only at hSw)
      go_simp
      try with_reducible rfl
    try simp only [Act.put, List.setIfInBounds_toArray, List.set_cons_zero, List.set_cons_succ]
    refine wpAnyL_take (i := 2) (oi := ?oi2_3) (v := ?vv2_3) ?hoi2_3 (by kernel_rfl) (by kernel_rfl) (by kernel_rfl) (by kernel_rfl) ?hq2_3 (Or.inl ⟨?hw2_3, ?hy2_3⟩) (by assumption) ?rest2_3
    case hoi2_3 => simp only [List.getElem?_toArray, List.getElem?_cons_succ, List.getElem?_cons_zero]; rfl
    case hq2_3 => exact fun _ _ _ h => h
    case hw2_3 => rfl
    case hy2_3 =>
      intro w hSw
      (try dsimp only at hSw)
      go_simp
      try with_reducible rfl
    try simp only [Act.put, List.setIfInBounds_toArray, List.set_cons_zero, List.set_cons_succ]
    refine wpAnyL_take (i := 3) (oi := ?oi3_4) (v := ?vv3_4) ?hoi3_4 (by kernel_rfl) (by kernel_rfl) (by kernel_rfl) (by kernel_rfl) ?hq3_4 (Or.inl ⟨?hw3_4, ?hy3_4⟩) (by assumption) ?rest3_4
    case hoi3_4 => simp only [List.getElem?_toArray, List.getElem?_cons_succ, List.getElem?_cons_zero]; rfl
    case hq3_4 => exact fun _ _ _ h => h
    case hw3_4 => rfl
    case hy3_4 =>
      intro w hSw
      (try dsimp only at hSw)
      go_simp
      try with_reducible rfl
    try simp only [Act.put, List.setIfInBounds_toArray, List.set_cons_zero, List.set_cons_succ]
    refine wpAnyL_take (i := 4) (oi := ?oi4_5) (v := ?vv4_5) ?hoi4_5 (by kernel_rfl) (by kernel_rfl) (by kernel_rfl) (by kernel_rfl) ?hq4_5 (Or.inl ⟨?hw4_5, ?hy4_5⟩) (by assumption) ?rest4_5
    case hoi4_5 => simp only [List.getElem?_toArray, List.getElem?_cons_succ, List.getElem?_cons_zero]; rfl
    case hq4_5 => exact fun _ _ _ h => h
    case hw4_5 => rfl
    case hy4_5 =>
      intro w hSw
      (try dsimp only at hSw)
      go_simp
      try with_reducible rfl
    try simp only [Act.put, List.setIfInBounds_toArray, List.set_cons_zero, List.set_cons_succ]
    refine wpAnyL_take (i := 6) (oi := ?oi6_6) (v := ?vv6_6) ?hoi6_6 (by kernel_rfl) (by kernel_rfl) (by kernel_rfl) (by kernel_rfl) ?hq6_6 (Or.inl ⟨?hw6_6, ?hy6_6⟩) (by assumption) ?rest6_6
    case hoi6_6 => simp only [List.getElem?_toArray, List.getElem?_cons_succ, List.getElem?_cons_zero]; rfl
    case hq6_6 => exact fun _ _ _ h => h
    case hw6_6 => rfl
    case hy6_6 =>
      intro w hSw
      (try dsimp only at hSw)
      go_simp
      try with_reducible rfl
    try simp only [Act.put, List.setIfInBounds_toArray, List.set_cons_zero, List.set_cons_succ]
    refine wpAnyL_take (i := 7) (oi := ?oi7_7) (v := ?vv7_7) ?hoi7_7 (by kernel_rfl) (by kernel_rfl) (by kernel_rfl) (by kernel_rfl) ?hq7_7 (Or.inl ⟨?hw7_7, ?hy7_7⟩) (by assumption) ?rest7_7
    case hoi7_7 => simp only [List.getElem?_toArray, List.getElem?_cons_succ, List.getElem?_cons_zero]; rfl
    case hq7_7 => exact fun _ _ _ h => h
    case hw7_7 => rfl
    case hy7_7 =>
      intro w hSw
      (try dsimp only at hSw)
      go_simp
      try with_reducible rfl
    try simp only [Act.put, List.setIfInBounds_toArray, List.set_cons_zero, List.set_cons_succ]
    refine wpAnyL_take (i := 8) (oi := ?oi8_8) (v := ?vv8_8) ?hoi8_8 (by kernel_rfl) (by kernel_rfl) (by kernel_rfl) (by kernel_rfl) ?hq8_8 (Or.inl ⟨?hw8_8, ?hy8_8⟩) (by assumption) ?rest8_8
    case hoi8_8 => simp only [List.getElem?_toArray, List.getElem?_cons_succ, List.getElem?_cons_zero]; rfl
    case hq8_8 => exact fun _ _ _ h => h
    case hw8_8 => rfl
    case hy8_8 =>
      intro w hSw
      (try dsimp only at hSw)
      go_simp
      try with_reducible rfl
    try simp only [Act.put, List.setIfInBounds_toArray, List.set_cons_zero, List.set_cons_succ]
    refine wpAnyL_take (i := 9) (oi := ?oi9_9) (v := ?vv9_9) ?hoi9_9 (by kernel_rfl) (by kernel_rfl) (by kernel_rfl) (by kernel_rfl) ?hq9_9 (Or.inl ⟨?hw9_9, ?hy9_9⟩) (by assumption) ?rest9_9
    case hoi9_9 => simp only [List.getElem?_toArray, List.getElem?_cons_succ, List.getElem?_cons_zero]; rfl
    case hq9_9 => exact fun _ _ _ h => h
    case hw9_9 => rfl
    case hy9_9 =>
      intro w hSw
      (try dsimp only at hSw)
      go_simp
      try with_reducible rfl
    try simp only [Act.put, List.setIfInBounds_toArray, List.set_cons_zero, List.set_cons_succ]
    refine wpAnyL_take (i := 10) (oi := ?oi10_10) (v := ?vv10_10) ?hoi10_10 (by kernel_rfl) (by kernel_rfl) (by kernel_rfl) (by kernel_rfl) ?hq10_10 (Or.inl ⟨?hw10_10, ?hy10_10⟩) (by assumption) ?rest10_10
    case hoi10_10 => simp only [List.getElem?_toArray, List.getElem?_cons_succ, List.getElem?_cons_zero]; rfl
    case hq10_10 => exact fun _ _ _ h => h
    case hw10_10 => rfl
    case hy10_10 =>
      intro w hSw
      (try dsimp only at hSw)
      go_simp
      try with_reducible rfl
    try simp only [Act.put, List.setIfInBounds_toArray, List.set_cons_zero, List.set_cons_succ]
    refine wpAnyL_take (i := 11) (oi := ?oi11_11) (v := ?vv11_11) ?hoi11_11 (by kernel_rfl) (by kernel_rfl) (by kernel_rfl) (by kernel_rfl) ?hq11_11 (Or.inl ⟨?hw11_11, ?hy11_11⟩) (by assumption) ?rest11_11
    case hoi11_11 => simp only [List.getElem?_toArray, List.getElem?_cons_succ, List.getElem?_cons_zero]; rfl
    case hq11_11 => exact fun _ _ _ h => h
    case hw11_11 => rfl
    case hy11_11 =>
      intro w hSw
      (try dsimp only at hSw)
      go_simp
      try with_reducible rfl
    try simp only [Act.put, List.setIfInBounds_toArray, List.set_cons_zero, List.set_cons_succ]
    refine wpAnyL_take (i := 12) (oi := ?oi12_12) (v := ?vv12_12) ?hoi12_12 (by kernel_rfl) (by kernel_rfl) (by kernel_rfl) (by kernel_rfl) ?hq12_12 (Or.inl ⟨?hw12_12, ?hy12_12⟩) (by assumption) ?rest12_12
    case hoi12_12 => simp only [List.getElem?_toArray, List.getElem?_cons_succ, List.getElem?_cons_zero]; rfl
    case hq12_12 => exact fun _ _ _ h => h
    case hw12_12 => rfl
    case hy12_12 =>
      intro w hSw
      (try dsimp only at hSw)
      go_simp
      try with_reducible rfl
    try simp only [Act.put, List.setIfInBounds_toArray, List.set_cons_zero, List.set_cons_succ]
    refine wpAnyL_take (i := 13) (oi := ?oi13_13) (v := ?vv13_13) ?hoi13_13 (by kernel_rfl) (by kernel_rfl) (by kernel_rfl) (by kernel_rfl) ?hq13_13 (Or.inl ⟨?hw13_13, ?hy13_13⟩) (by assumption) ?rest13_13
    case hoi13_13 => simp only [List.getElem?_toArray, List.getElem?_cons_succ, List.getElem?_cons_zero]; rfl
    case hq13_13 => exact fun _ _ _ h => h
    case hw13_13 => rfl
    case hy13_13 =>
      intro w hSw
      (try dsimp only at hSw)
      go_simp
      try with_reducible rfl
    try simp only [Act.put, List.setIfInBounds_toArray, List.set_cons_zero, List.set_cons_succ]
    refine wpAnyL_ready (rs := [5]) (by kernel_rfl) (by simp) ?_
    refine AllReadyL.cons (o := ?oo5_14) ?ho5_14 (fun K hK => ?st5_14) AllReadyL.nil
    case ho5_14 => simp only [List.getElem?_toArray, List.getElem?_cons_succ, List.getElem?_cons_zero]; rfl
    case st5_14 =>
      go_simp
      have hHeld := HC12.out _ (show Keep [] w1 (w1.drew.alloc (.cells #[] 3)) from (Keep.drew [] _).trans (Keep.alloc [] _ _))
      refine hK.out _ _ (fun _ => hHeld) ?_
      clear hK K
      try simp only [Act.put, List.setIfInBounds_toArray, List.set_cons_zero, List.set_cons_succ]
      refine wpAnyL_ready (rs := [14]) (by kernel_rfl) (by simp) ?_
      refine AllReadyL.cons (o := ?oo14_15) ?ho14_15 (fun K hK => ?st14_15) AllReadyL.nil
      case ho14_15 => simp only [List.getElem?_toArray, List.getElem?_cons_succ, List.getElem?_cons_zero]; rfl
      case st14_15 =>
        refine step_append_ints rfl (.tmp 35) (.tmp 43) 23 rfl w1.heap.size 3 i0 Tryz.underlying23 hI.out (.slice (some ⟨_, 0, none⟩) 0 0) 0 [] L rfl (own_emptyB (mA _ _) (by omega)) (some ⟨lg, lo, none⟩) 0 0 HL0.out rfl (HI.out.keep (S := []) ((Keep.drew [] _).trans (Keep.alloc [] _ _)) (fun _ _ _ => by simp)) (fun e => by cases e) (by omega) (by first | (simp; done) | (simp; omega)) ?_
        intro v6 w6 hown6 hgrow6
        have hK6 : Keep [] w1 w6 := (show Keep [] w1 _ from (Keep.drew [] _).trans (Keep.alloc [] _ _)).grown hgrow6 (fun z e => by simp [Value.ownBlock] at e; omega)
        rw [List.nil_append] at hown6
        have HB6 := (show Hid (∀ k, v6.ownBlock = some k → (Value.slice (some ⟨lg, lo, none⟩) 1 1).ownBlock = some k ∨ w1.heap.size ≤ k) from fun k e => .inr (own_block hown6 k e))
        have HM6 := (show Hid (IsMid w6 3 v6 L) from own_mid hown6)
        have HK6 := (show Hid (Keep [] w1 w6) from hK6)
        obtain ⟨l6, d6, hv6⟩ := HM6.out.form
        subst hv6
        clear hown6 hgrow6 hK6
        refine hK.out _ _ (fun _ => HC12.out _ HK6.out) ?_
        clear hK K
        have hHeld := HC12.out _ HK6.out
        try simp only [Act.put, List.setIfInBounds_toArray, List.set_cons_zero, List.set_cons_succ]
        refine wpAnyL_take (i := 15) (oi := ?oi15_16) (v := ?vv15_16) ?hoi15_16 (by kernel_rfl) (by kernel_rfl) (by kernel_rfl) (by kernel_rfl) ?hq15_16 (Or.inl ⟨?hw15_16, ?hy15_16⟩) (by assumption) ?rest15_16
        case hoi15_16 => simp only [List.getElem?_toArray, List.getElem?_cons_succ, List.getElem?_cons_zero]; rfl
        case hq15_16 => exact fun _ _ _ h => h
        case hw15_16 => rfl
        case hy15_16 =>
          intro w hSw
          (try dsimp only at hSw)
          go_simp
          try with_reducible rfl
        try simp only [Act.put, List.setIfInBounds_toArray, List.set_cons_zero, List.set_cons_succ]
        refine wpAnyL_ready (rs := [16]) (by kernel_rfl) (by simp) ?_
        refine AllReadyL.cons (o := ?oo16_17) ?ho16_17 (fun K hK => ?st16_17) AllReadyL.nil
        case ho16_17 => simp only [List.getElem?_toArray, List.getElem?_cons_succ, List.getElem?_cons_zero]; rfl
        case st16_17 =>
          obtain ⟨c16, c26⟩ := HC12.out _ HK6.out
          have f26 := HF2.out _ HK6.out
          go_simp
          refine hK.out _ _ (fun h => absurd rfl h) ?_
          clear hK K
          refine wpAnyL_done (by kernel_rfl) ?_ _
          have h5 := HM6.out
          have h6 := HB6.out
          have hX7 := (Has.gput HX.out.assoc HJ.out c2 h5 (HK6.out.mono (by simp)) h6).assoc'
          have HX7 := hid hX7
          clear hX7 h5 h6 HB6 HM6 HK6 c16 c26 f26 c1 c2 HX
          generalize w6.setCell _ _ = w7 at *
          obtain ⟨c0, _, _⟩ := robj_cells HX7.out.fst.fst.fst
          go_wp2_with fail
          refine (has_left (has_right_star HX7.out) (fun F hF => rput a 2 0 0 _ _ hF HP1.out inI_0)).mono ?_
          rintro e w8 ⟨rfl, hX8⟩
          have HX8 := hid (has_back_star hX8)
          have hx8 : w8.heap[bx]? = some (.cells #[.int .i64 0, .int .i64 0] 39 (0, 0)) := HX8.out.snd.fact (fun _ h => h.2)
          obtain ⟨f0, f1⟩ := two_free hx8
          obtain ⟨d0, d1⟩ := two_cells hx8
          clear hX8 HX7 c0
          go_wp2_with fail
          obtain ⟨z, hk6⟩ := two_put hx8 (.int .i64 a) (.int .i64 0)
          refine bodyPost_ret (results_cell_row rfl _ _ bx 39 #[.int .i64 a, .int .i64 0] (0, 0) _ rfl z Tryz.underlying39 rfl (by kernel_rfl)) rfl ?_
          exact ⟨rfl, Has.refs (va := some ⟨bb, 0, none⟩) (vc := vc) (by unfold refsR; rw [List.length_set]; exact (HX8.out.block hk6 z).fst) HQ.out⟩
  · have HI := HI0
    have HL0 := (show Hid (L.length = p - 1) from by have := HPQ.out; have := HLQ.out; show L.length = p - 1; omega)
    clear HI0
    refine wp_region_last (S := fun wz => wz.cell? ⟨rb, 1, none⟩ = some (.slice (some ⟨bb, 0, none⟩) n vc) ∧ wz.cell? ⟨bb, j, none⟩ = some (.slice (some ⟨lg, lo, none⟩) p cc)) 16 (by kernel_rfl) (HC12.out _ (Keep.drew [] _)) (fun hHeld => ?_)
    refine wpAnyL_take (i := 0) (oi := ?oi0_101) (v := ?vv0_101) ?hoi0_101 (by kernel_rfl) (by kernel_rfl) (by kernel_rfl) (by kernel_rfl) ?hq0_101 (Or.inl ⟨?hw0_101, ?hy0_101⟩) (by assumption) ?rest0_101
    case hoi0_101 => simp only [List.getElem?_toArray, List.getElem?_cons_zero]; rfl
    case hq0_101 => exact fun _ _ _ h => h
    case hw0_101 => rfl
    case hy0_101 =>
      intro w hSw
      (try dsimp only at hSw)
      go_simp
      try with_reducible rfl
    try simp only [Act.put, List.setIfInBounds_toArray, List.set_cons_zero, List.set_cons_succ]
    refine wpAnyL_take (i := 1) (oi := ?oi1_102) (v := ?vv1_102) ?hoi1_102 (by kernel_rfl) (by kernel_rfl) (by kernel_rfl) (by kernel_rfl) ?hq1_102 (Or.inl ⟨?hw1_102, ?hy1_102⟩) (by assumption) ?rest1_102
    case hoi1_102 => simp only [List.getElem?_toArray, List.getElem?_cons_succ, List.getElem?_cons_zero]; rfl
    case hq1_102 => exact fun _ _ _ h => h
    case hw1_102 => rfl
    case hy1_102 =>
      intro w hSw
      (try dsimp only at hSw)
      go_simp
      try with_reducible rfl
    try simp only [Act.put, List.setIfInBounds_toArray, List.set_cons_zero, List.set_cons_succ]
    refine wpAnyL_take (i := 2) (oi := ?oi2_103) (v := ?vv2_103) ?hoi2_103 (by kernel_rfl) (by kernel_rfl) (by kernel_rfl) (by kernel_rfl) ?hq2_103 (Or.inl ⟨?hw2_103, ?hy2_103⟩) (by assumption) ?rest2_103
    case hoi2_103 => simp only [List.getElem?_toArray, List.getElem?_cons_succ, List.getElem?_cons_zero]; rfl
    case hq2_103 => exact fun _ _ _ h => h
    case hw2_103 => rfl
    case hy2_103 =>
      intro w hSw
      (try dsimp only at hSw)
      go_simp
      try with_reducible rfl
    try simp only [Act.put, List.setIfInBounds_toArray, List.set_cons_zero, List.set_cons_succ]
    refine wpAnyL_take (i := 3) (oi := ?oi3_104) (v := ?vv3_104) ?hoi3_104 (by kernel_rfl) (by kernel_rfl) (by kernel_rfl) (by kernel_rfl) ?hq3_104 (Or.inl ⟨?hw3_104, ?hy3_104⟩) (by assumption) ?rest3_104
    case hoi3_104 => simp only [List.getElem?_toArray, List.getElem?_cons_succ, List.getElem?_cons_zero]; rfl
    case hq3_104 => exact fun _ _ _ h => h
    case hw3_104 => rfl
    case hy3_104 =>
      intro w hSw
      (try dsimp only at hSw)
      go_simp
      try with_reducible rfl
    try simp only [Act.put, List.setIfInBounds_toArray, List.set_cons_zero, List.set_cons_succ]
    refine wpAnyL_take (i := 4) (oi := ?oi4_105) (v := ?vv4_105) ?hoi4_105 (by kernel_rfl) (by kernel_rfl) (by kernel_rfl) (by kernel_rfl) ?hq4_105 (Or.inl ⟨?hw4_105, ?hy4_105⟩) (by assumption) ?rest4_105
    case hoi4_105 => simp only [List.getElem?_toArray, List.getElem?_cons_succ, List.getElem?_cons_zero]; rfl
    case hq4_105 => exact fun _ _ _ h => h
    case hw4_105 => rfl
    case hy4_105 =>
      intro w hSw
      (try dsimp only at hSw)
      go_simp
      try with_reducible rfl
    try simp only [Act.put, List.setIfInBounds_toArray, List.set_cons_zero, List.set_cons_succ]
    refine wpAnyL_take (i := 6) (oi := ?oi6_106) (v := ?vv6_106) ?hoi6_106 (by kernel_rfl) (by kernel_rfl) (by kernel_rfl) (by kernel_rfl) ?hq6_106 (Or.inl ⟨?hw6_106, ?hy6_106⟩) (by assumption) ?rest6_106
    case hoi6_106 => simp only [List.getElem?_toArray, List.getElem?_cons_succ, List.getElem?_cons_zero]; rfl
    case hq6_106 => exact fun _ _ _ h => h
    case hw6_106 => rfl
    case hy6_106 =>
      intro w hSw
      (try dsimp only at hSw)
      go_simp
      try with_reducible rfl
    try simp only [Act.put, List.setIfInBounds_toArray, List.set_cons_zero, List.set_cons_succ]
    refine wpAnyL_take (i := 7) (oi := ?oi7_107) (v := ?vv7_107) ?hoi7_107 (by kernel_rfl) (by kernel_rfl) (by kernel_rfl) (by kernel_rfl) ?hq7_107 (Or.inl ⟨?hw7_107, ?hy7_107⟩) (by assumption) ?rest7_107
    case hoi7_107 => simp only [List.getElem?_toArray, List.getElem?_cons_succ, List.getElem?_cons_zero]; rfl
    case hq7_107 => exact fun _ _ _ h => h
    case hw7_107 => rfl
    case hy7_107 =>
      intro w hSw
      (try dsimp only at hSw)
      go_simp
      try with_reducible rfl
    try simp only [Act.put, List.setIfInBounds_toArray, List.set_cons_zero, List.set_cons_succ]
    refine wpAnyL_take (i := 8) (oi := ?oi8_108) (v := ?vv8_108) ?hoi8_108 (by kernel_rfl) (by kernel_rfl) (by kernel_rfl) (by kernel_rfl) ?hq8_108 (Or.inl ⟨?hw8_108, ?hy8_108⟩) (by assumption) ?rest8_108
    case hoi8_108 => simp only [List.getElem?_toArray, List.getElem?_cons_succ, List.getElem?_cons_zero]; rfl
    case hq8_108 => exact fun _ _ _ h => h
    case hw8_108 => rfl
    case hy8_108 =>
      intro w hSw
      (try dsimp only at hSw)
      go_simp
      try with_reducible rfl
    try simp only [Act.put, List.setIfInBounds_toArray, List.set_cons_zero, List.set_cons_succ]
    refine wpAnyL_take (i := 9) (oi := ?oi9_109) (v := ?vv9_109) ?hoi9_109 (by kernel_rfl) (by kernel_rfl) (by kernel_rfl) (by kernel_rfl) ?hq9_109 (Or.inl ⟨?hw9_109, ?hy9_109⟩) (by assumption) ?rest9_109
    case hoi9_109 => simp only [List.getElem?_toArray, List.getElem?_cons_succ, List.getElem?_cons_zero]; rfl
    case hq9_109 => exact fun _ _ _ h => h
    case hw9_109 => rfl
    case hy9_109 =>
      intro w hSw
      (try dsimp only at hSw)
      go_simp
      try with_reducible rfl
    try simp only [Act.put, List.setIfInBounds_toArray, List.set_cons_zero, List.set_cons_succ]
    refine wpAnyL_take (i := 10) (oi := ?oi10_110) (v := ?vv10_110) ?hoi10_110 (by kernel_rfl) (by kernel_rfl) (by kernel_rfl) (by kernel_rfl) ?hq10_110 (Or.inl ⟨?hw10_110, ?hy10_110⟩) (by assumption) ?rest10_110
    case hoi10_110 => simp only [List.getElem?_toArray, List.getElem?_cons_succ, List.getElem?_cons_zero]; rfl
    case hq10_110 => exact fun _ _ _ h => h
    case hw10_110 => rfl
    case hy10_110 =>
      intro w hSw
      (try dsimp only at hSw)
      go_simp
      try with_reducible rfl
    try simp only [Act.put, List.setIfInBounds_toArray, List.set_cons_zero, List.set_cons_succ]
    refine wpAnyL_take (i := 11) (oi := ?oi11_111) (v := ?vv11_111) ?hoi11_111 (by kernel_rfl) (by kernel_rfl) (by kernel_rfl) (by kernel_rfl) ?hq11_111 (Or.inl ⟨?hw11_111, ?hy11_111⟩) (by assumption) ?rest11_111
    case hoi11_111 => simp only [List.getElem?_toArray, List.getElem?_cons_succ, List.getElem?_cons_zero]; rfl
    case hq11_111 => exact fun _ _ _ h => h
    case hw11_111 => rfl
    case hy11_111 =>
      intro w hSw
      (try dsimp only at hSw)
      go_simp
      try with_reducible rfl
    try simp only [Act.put, List.setIfInBounds_toArray, List.set_cons_zero, List.set_cons_succ]
    refine wpAnyL_take (i := 12) (oi := ?oi12_112) (v := ?vv12_112) ?hoi12_112 (by kernel_rfl) (by kernel_rfl) (by kernel_rfl) (by kernel_rfl) ?hq12_112 (Or.inl ⟨?hw12_112, ?hy12_112⟩) (by assumption) ?rest12_112
    case hoi12_112 => simp only [List.getElem?_toArray, List.getElem?_cons_succ, List.getElem?_cons_zero]; rfl
    case hq12_112 => exact fun _ _ _ h => h
    case hw12_112 => rfl
    case hy12_112 =>
      intro w hSw
      (try dsimp only at hSw)
      go_simp
      try with_reducible rfl
    try simp only [Act.put, List.setIfInBounds_toArray, List.set_cons_zero, List.set_cons_succ]
    refine wpAnyL_take (i := 13) (oi := ?oi13_113) (v := ?vv13_113) ?hoi13_113 (by kernel_rfl) (by kernel_rfl) (by kernel_rfl) (by kernel_rfl) ?hq13_113 (Or.inl ⟨?hw13_113, ?hy13_113⟩) (by assumption) ?rest13_113
    case hoi13_113 => simp only [List.getElem?_toArray, List.getElem?_cons_succ, List.getElem?_cons_zero]; rfl
    case hq13_113 => exact fun _ _ _ h => h
    case hw13_113 => rfl
    case hy13_113 =>
      intro w hSw
      (try dsimp only at hSw)
      go_simp
      try with_reducible rfl
    try simp only [Act.put, List.setIfInBounds_toArray, List.set_cons_zero, List.set_cons_succ]
    refine wpAnyL_ready (rs := [5]) (by kernel_rfl) (by simp) ?_
    refine AllReadyL.cons (o := ?oo5_114) ?ho5_114 (fun K hK => ?st5_114) AllReadyL.nil
    case ho5_114 => simp only [List.getElem?_toArray, List.getElem?_cons_succ, List.getElem?_cons_zero]; rfl
    case st5_114 =>
      go_simp
      have hHeld := HC12.out _ (show Keep [] w1 (w1.drew.alloc (.cells #[] 3)) from (Keep.drew [] _).trans (Keep.alloc [] _ _))
      refine hK.out _ _ (fun _ => hHeld) ?_
      clear hK K
      try simp only [Act.put, List.setIfInBounds_toArray, List.set_cons_zero, List.set_cons_succ]
      refine wpAnyL_ready (rs := [14]) (by kernel_rfl) (by simp) ?_
      refine AllReadyL.cons (o := ?oo14_115) ?ho14_115 (fun K hK => ?st14_115) AllReadyL.nil
      case ho14_115 => simp only [List.getElem?_toArray, List.getElem?_cons_succ, List.getElem?_cons_zero]; rfl
      case st14_115 =>
        refine step_append_ints rfl (.tmp 35) (.tmp 43) 23 rfl w1.heap.size 3 i0 Tryz.underlying23 hI.out (.slice (some ⟨_, 0, none⟩) 0 0) 0 [] L rfl (own_emptyB (mA _ _) (by omega)) (some ⟨lg, lo + 1, none⟩) (p - 1) (cc - 1) HL0.out rfl (HI.out.keep (S := []) ((Keep.drew [] _).trans (Keep.alloc [] _ _)) (fun _ _ _ => by simp)) (fun e => by cases e) (by omega) (by first | (simp; done) | (simp; omega)) ?_
        intro v6 w6 hown6 hgrow6
        have hK6 : Keep [] w1 w6 := (show Keep [] w1 _ from (Keep.drew [] _).trans (Keep.alloc [] _ _)).grown hgrow6 (fun z e => by simp [Value.ownBlock] at e; omega)
        rw [List.nil_append] at hown6
        have HB6 := (show Hid (∀ k, v6.ownBlock = some k → (Value.slice (some ⟨lg, lo, none⟩) p cc).ownBlock = some k ∨ w1.heap.size ≤ k) from fun k e => .inr (own_block hown6 k e))
        have HM6 := (show Hid (IsMid w6 3 v6 L) from own_mid hown6)
        have HK6 := (show Hid (Keep [] w1 w6) from hK6)
        obtain ⟨l6, d6, hv6⟩ := HM6.out.form
        subst hv6
        clear hown6 hgrow6 hK6
        refine hK.out _ _ (fun _ => HC12.out _ HK6.out) ?_
        clear hK K
        have hHeld := HC12.out _ HK6.out
        try simp only [Act.put, List.setIfInBounds_toArray, List.set_cons_zero, List.set_cons_succ]
        refine wpAnyL_take (i := 15) (oi := ?oi15_116) (v := ?vv15_116) ?hoi15_116 (by kernel_rfl) (by kernel_rfl) (by kernel_rfl) (by kernel_rfl) ?hq15_116 (Or.inl ⟨?hw15_116, ?hy15_116⟩) (by assumption) ?rest15_116
        case hoi15_116 => simp only [List.getElem?_toArray, List.getElem?_cons_succ, List.getElem?_cons_zero]; rfl
        case hq15_116 => exact fun _ _ _ h => h
        case hw15_116 => rfl
        case hy15_116 =>
          intro w hSw
          (try dsimp only at hSw)
          go_simp
          try with_reducible rfl
        try simp only [Act.put, List.setIfInBounds_toArray, List.set_cons_zero, List.set_cons_succ]
        refine wpAnyL_ready (rs := [16]) (by kernel_rfl) (by simp) ?_
        refine AllReadyL.cons (o := ?oo16_117) ?ho16_117 (fun K hK => ?st16_117) AllReadyL.nil
        case ho16_117 => simp only [List.getElem?_toArray, List.getElem?_cons_succ, List.getElem?_cons_zero]; rfl
        case st16_117 =>
          obtain ⟨c16, c26⟩ := HC12.out _ HK6.out
          have f26 := HF2.out _ HK6.out
          go_simp
          refine hK.out _ _ (fun h => absurd rfl h) ?_
          clear hK K
          refine wpAnyL_done (by kernel_rfl) ?_ _
          have h5 := HM6.out
          have h6 := HB6.out
          have hX7 := (Has.gput HX.out.assoc HJ.out c2 h5 (HK6.out.mono (by simp)) h6).assoc'
          have HX7 := hid hX7
          clear hX7 h5 h6 HB6 HM6 HK6 c16 c26 f26 c1 c2 HX
          generalize w6.setCell _ _ = w7 at *
          obtain ⟨c0, _, _⟩ := robj_cells HX7.out.fst.fst.fst
          go_wp2_with fail
          refine (has_left (has_right_star HX7.out) (fun F hF => rput a 2 0 0 _ _ hF HP1.out inI_0)).mono ?_
          rintro e w8 ⟨rfl, hX8⟩
          have HX8 := hid (has_back_star hX8)
          have hx8 : w8.heap[bx]? = some (.cells #[.int .i64 0, .int .i64 0] 39 (0, 0)) := HX8.out.snd.fact (fun _ h => h.2)
          obtain ⟨f0, f1⟩ := two_free hx8
          obtain ⟨d0, d1⟩ := two_cells hx8
          clear hX8 HX7 c0
          go_wp2_with fail
          obtain ⟨z, hk6⟩ := two_put hx8 (.int .i64 a) (.int .i64 0)
          refine bodyPost_ret (results_cell_row rfl _ _ bx 39 #[.int .i64 a, .int .i64 0] (0, 0) _ rfl z Tryz.underlying39 rfl (by kernel_rfl)) rfl ?_
          exact ⟨rfl, Has.refs (va := some ⟨bb, 0, none⟩) (vc := vc) (by unfold refsR; rw [List.length_set]; exact (HX8.out.block hk6 z).fst) HQ.out⟩
end

end Go.Proofs.YtdpkmebckholnaaGreat

/-
  Whole and awake of gloaminglaw9.
-/
namespace Go.Proofs.YtdpkmebckholnaaGreat
open Go.RowKit

section
variable {w0 : World} {F0 : List Nat} {hb : Nat} {ws : List Int} {kd : List PK} {ds : List (Int × List Int)}
set_option maxRecDepth 100000 in
set_option maxHeartbeats 1600000 in
theorem owhole (w : World) (h : Has w0 F0 (heapA hb ws kd ds) w) :
    Calls Tryz.prog 23 #[.pointer (some ⟨hb, 0, none⟩)] w fun e w' => e = .returned (.bool true) ∧ w = w' := by
  obtain ⟨sb, tb, hr⟩ := h.raw
  obtain ⟨c0, c1, ⟨ab, ag, c2, _⟩, ⟨pb, c3⟩, _⟩ := hr.cells
  clear h hr
  go_enter Tryz.func23, Tryz.ntmps23
  go_wp2_with fail
  go_ret
  exact ⟨rfl, rfl⟩
end

theorem Fine.add {ws : List Int} {kd : List PK} {ds : List (Int × List Int)} (h : Fine ws kd ds) (f : Int) (L : List Int) : Fine ws kd (addR ds f L) := by
  unfold addR
  split
  · rename_i e
    simp at e
    exact ⟨h.wf, h.ob.add _, by simp; omega, h.len⟩
  · exact h

section
variable {w0 : World} {F0 : List Nat} {hb : Nat} {ws : List Int} {kd : List PK} {ds : List (Int × List Int)}
theorem Has.ptrs {w : World} (h : Has w0 F0 (heapA hb ws kd ds) w) : ∃ sb tb, w.cell? ⟨hb, 0, none⟩ = some (.pointer (some ⟨sb, 0, none⟩)) ∧ w.cell? ⟨hb, 1, none⟩ = some (.pointer (some ⟨tb, 0, none⟩)) := by
  obtain ⟨sb, tb, hr⟩ := h.raw
  exact ⟨sb, tb, hr.cells.1, hr.cells.2.1⟩
theorem ptr_eq {a b : Nat} (e : some (Value.pointer (some ⟨a, 0, none⟩)) = some (.pointer (some ⟨b, 0, none⟩))) : a = b := by
  injection e with e; injection e with e; injection e with e; injection e
theorem ofind (sb : Nat) (a : Int) (w : World) (h : Has w0 F0 (heapA hb ws kd ds) w) (ht : w.cell? ⟨hb, 0, none⟩ = some (.pointer (some ⟨sb, 0, none⟩))) :
    Calls Tryz.prog 77 #[.pointer (some ⟨sb, 0, none⟩), .int .i64 a] w fun e w' => e = .returned (foundV (findI kd a)) ∧ Keep [] w w' := by
  obtain ⟨sb', tb, hr⟩ := h.raw
  have e := hr.cells.1
  rw [ht] at e
  obtain rfl := ptr_eq e
  exact xfind w a hr h.fine.wf
end

theorem awake_each : (eachK ((freshK 2).set 1 (.small 0 ((offs (roomOf 0)).set 0 true)))).length = 1 := by decide +kernel
theorem block2 : blockI 2 = (2 : Nat) := by decide
end Go.Proofs.YtdpkmebckholnaaGreat

/-
  A list of integers that grows, as a part of memory beside others.
-/
namespace Go.Proofs.YtdpkmebckholnaaGreat
open Go.RowKit

def ownA (t : TypeId) (la : Option Addr) (q c : Nat) (L : List Int) : Asn where
  at' w F := F = la.toList.map (·.block) ∧ w.ownsRow 0 t 1 (.slice la q c) q (ints L) ∧ ∀ a, la = some a → a.block < w.heap.size
  keep := fun h K hS => ⟨h.1, own_keepS h.2.1 K (fun y e => hS _ (by rw [h.1, e]; simp)), fun a e => Nat.lt_of_lt_of_le (h.2.2 a e) K.size⟩
  lt := fun h k hk => by
    rw [h.1] at hk
    simp at hk
    obtain ⟨a, e, rfl⟩ := hk
    exact h.2.2 a e
theorem Has.own {w0 w : World} {F0 : List Nat} {t : TypeId} {la : Option Addr} {q c : Nat} {L : List Int} (h : Has w0 F0 (ownA t la q c L) w) : w.ownsRow 0 t 1 (.slice la q c) q (ints L) := h.fact (fun _ h => h.2.1)
theorem Has.ownNew {w0 w : World} {F0 : List Nat} {A : Asn} (t : TypeId) (h : Has w0 F0 A w) : Has w0 F0 (A.star (ownA t none 0 0 [])) w :=
  h.more (Keep.refl _ _) (G := []) ⟨rfl, World.ownsRow_nil _ _ _ _, by simp⟩ (by simp)
theorem Has.ownMore {w0 w w' : World} {F0 : List Nat} {A : Asn} {t : TypeId} {la : Option Addr} {q c q' c' g H : Nat} {L L' : List Int} (h : Has w0 F0 (A.star (ownA t la q c L)) w) (ho : w'.ownsRow 0 t 1 (.slice (some ⟨g, 0, none⟩) q' c') q' (ints L')) (hg : w.grownBy w' (Value.slice la q c).ownBlock)
    (hb : (Value.slice la q c).ownBlock = some g ∨ g = H) (hH : w.heap.size = H) (hlt : g < w'.heap.size) : Has w0 F0 (A.star (ownA t (some ⟨g, 0, none⟩) q' c' L')) w' := by
  refine (Has.left h.comm (A' := ownA t (some ⟨g, 0, none⟩) q' c' L') (fun F hF => ⟨[g], ⟨rfl, ho, fun a e => by cases e; exact hlt⟩, ?_, fun k hk => ?_⟩)).comm
  · rw [hF.1]; exact grown_keep hg
  · simp at hk
    subst hk
    rcases hb with hb | hb
    · left
      rw [hF.1]
      cases la with
      | none => simp [Value.ownBlock] at hb
      | some z => simp [Value.ownBlock] at hb; simp [hb]
    · right; omega

end Go.Proofs.YtdpkmebckholnaaGreat

/-
  A list of integers that nothing turns, as a part of memory beside others.
-/
namespace Go.Proofs.YtdpkmebckholnaaGreat
open Go.RowKit

def listA (la : Option Addr) (L : List Int) : Asn where
  at' w F := F = la.toList.map (·.block) ∧ IntsAt w la L ∧ ∀ a, la = some a → a.block < w.heap.size
  keep := fun h K hS => ⟨h.1, h.2.1.keep K (fun _ a e => hS _ (by rw [h.1, e]; simp)), fun a e => Nat.lt_of_lt_of_le (h.2.2 a e) K.size⟩
  lt := fun h k hk => by
    rw [h.1] at hk
    simp at hk
    obtain ⟨a, e, rfl⟩ := hk
    exact h.2.2 a e
theorem Has.list {w0 w : World} {F0 : List Nat} {la : Option Addr} {L : List Int} (h : Has w0 F0 (listA la L) w) : IntsAt w la L := h.fact (fun _ h => h.2.1)
/-- A list that was made since w beside what there is. -/
theorem Has.listed {w0 w w' : World} {F0 : List Nat} {A : Asn} {v : Value} {n : Nat} {L : List Int} {t : TypeId} (h : Has w0 F0 A w) (K : Keep [] w w') (ho : w'.ownsRow w.heap.size t 1 v n (ints L)) (hb : ∀ i : Nat, -9223372036854775808 ≤ L[i]?.getD 0 ∧ L[i]?.getD 0 ≤ 9223372036854775807) :
    ∃ la lc, v = .slice la L.length lc ∧ (la = none → lc = 0) ∧ Has w0 F0 (A.star (listA la L)) w' := by
  rcases own_ints ho hb with ⟨rfl, rfl, _⟩ | ⟨g, cap, rfl, _, h2, h3, h4⟩
  · exact ⟨none, 0, rfl, fun _ => rfl, h.more K (G := []) ⟨rfl, IntsAt.nil _ _, by simp⟩ (by simp)⟩
  · exact ⟨some ⟨g, 0, none⟩, cap, rfl, by simp, h.more K (G := [g]) ⟨rfl, h4, fun a e => by cases e; exact h3⟩ (by simpa using h2)⟩

end Go.Proofs.YtdpkmebckholnaaGreat

/-
  Heap and awake of gloaminglaw12: a heap with so many references.
-/
namespace Go.Proofs.YtdpkmebckholnaaGreat
open Go.RowKit

theorem Tryz.infoInt12 : (Tryz.prog.info? 3).map (fun i => (i.zero, i.size, i.bytes)) = some (some (.int .i64 0), 1, 8) := by kernel_rfl

set_option maxRecDepth 100000 in
set_option maxHeartbeats 6400000 in
theorem heap12 (n N : Nat) {W : Nat → List Int} {K : Nat → List PK} {A : Nat → Nat} (hC : Chain N W K A) (hn : n ≤ N) (hN : N ≤ 30) (w : World) :
    Calls Tryz.prog 4 #[.int .i64 n] w fun e w' => ∃ hb la lc, e = .returned (.tuple #[.pointer (some ⟨hb, 0, none⟩), .slice la n lc]) ∧ Has w [] ((heapA hb (W n) (K n) []).star (listA la (aL A n))) w' := by
  obtain ⟨i0, hi, hz0, hz1, hz2⟩ := info_parts Tryz.infoInt12
  have hI : Hid (Tryz.prog.info? 3 = some i0 ∧ i0.zero = some (.int .i64 0) ∧ i0.size = 1 ∧ i0.bytes = 8) := ⟨hi, hz0, hz1, hz2⟩
  clear hi hz0 hz1 hz2
  have HC := hid hC
  clear hC
  go_enter Tryz.func4, Tryz.ntmps4
  go_wp2_with (first | (go_at_call 22; refine (onew_has 40 _ (by omega) (by omega)).mono ?_; rintro e w1 ⟨hb, rfl, hH⟩; have HH := (show Hid (Has w [] (heapA hb (zeros (64 * 40)) (freshK 40) []) w1) from hH); clear hH) | (go_at_call 23; refine (owhole _ HH.out).mono ?_; rintro e w' ⟨rfl, rfl⟩) | (go_at_call 9; refine (err_any _ _).mono ?_; rintro e w' ⟨rfl, rfl⟩))
  have HH0 := (show Hid (Has w [] ((heapA hb (W 0) (K 0) []).star (ownA 3 none 0 0 (aL A 0))) w1) from by
    show Has _ _ _ _
    rw [HC.out.w0, HC.out.k0]
    exact HH.out.ownNew 3)
  clear HH
  go_loopw [6, 7] (fun l i wr => ∃ (j : Nat) (la : Option Addr) (lc : Nat), l = .slice la j lc ∧ i = .int .i64 j ∧ j ≤ n ∧ Hid (Has w [] ((heapA hb (W j) (K j) []).star (ownA 3 la j lc (aL A j))) wr)) (fun _ i _ => n - (intOf i).toNat)
  case atStart => exact ⟨0, none, 0, rfl, rfl, by omega, HH0⟩
  case round =>
    obtain ⟨j, la, lc, rfl, rfl, hj, HX⟩ := hrel
    obtain ⟨w2, rfl⟩ : ∃ w2, w2 = wr := ⟨_, rfl⟩
    clear HH0
    by_cases hlt : j < n
    · have hd : decide (j < n) = true := decide_eq_true hlt
      obtain ⟨r, hr⟩ : ∃ r, j % 3 = r := ⟨_, rfl⟩
      have hri : (j : Int) % 3 = r := by rw [← hr]; rfl
      obtain ⟨c, hc⟩ : ∃ c : Int, 1 + (r : Int) = c := ⟨_, rfl⟩
      have HT := (show Hid (MakeT (K j) (W j) [] 4 c 5 false (A j : Int) 0 (W (j + 1)) (K (j + 1))) from by
        have := HC.out.step j (by omega)
        rw [hr, hc] at this
        exact this)
      have hc3 : 1 ≤ c ∧ c ≤ 3 := by omega
      obtain ⟨a, ha⟩ : ∃ a, A j = a := ⟨_, rfl⟩
      have hab := HC.out.bd j (by omega)
      rw [ha] at HT hab
      have HL := (show Hid (aL A (j + 1) = aL A j ++ [(a : Int)]) from by show _ = _; rw [aL_snoc, ha])
      clear hr ha
      go_wp2_with (first | (go_at_call 24; refine (has_left HX.out (fun F hF => omake 4 c 5 a 0 false _ _ _ hF HT.out)).mono ?_; rintro e w3 ⟨rfl, hX3⟩; have HX3 := hid hX3; clear hX3) | (go_at_call 9; refine (err_any _ _).mono ?_; rintro e w' ⟨rfl, rfl⟩) | (at_builtin; refine wpList_append_lies _ rfl (.tmp 39) (.tmp 41) 23 rfl 0 3 i0 (.int .i64 0) 1 8 Tryz.underlying23 hI.out.1 hI.out.2.1 hI.out.2.2.1 hI.out.2.2.2 rfl (by decide) _ j (ints (aL A j)) rfl (HX3.out.snd.own.alloc _) ⟨w3.heap.size, 0, none⟩ 1 1 (ints [(a : Int)]) rfl rfl (one_cell _ _ _) (ints_one _) (by omega) (by unfold maxLen; omega) (by omega) (by omega) (w3.heap.size + 1) (by simp) ?_; intro ga ca7 w7 hown7 hgrow7 hblk7 hlt7; rw [ints_app] at hown7; have HX7 := (show Hid (Has w [] ((heapA hb (W (j + 1)) (K (j + 1)) []).star (ownA 3 (some ⟨ga, 0, none⟩) (j + 1) ca7 (aL A (j + 1)))) w7) from by show Has _ _ _ _; rw [HL.out]; exact (HX3.out.keep0 (Keep.alloc [] _ _)).ownMore hown7 hgrow7 hblk7 (by simp) hlt7); clear hown7 hgrow7 hblk7 hlt7))
      go_roundw
      case rel => exact ⟨j + 1, some ⟨ga, 0, none⟩, ca7, by rfl, by go_num, by omega, HX7⟩
      case measure => simp [intOf]; omega
    · obtain rfl : j = n := by omega
      go_wp2_with fail
      go_ret2
      refine ⟨hb, la, lc, rfl, ?_⟩
      refine (HX.out.comm.map (fun F g => ?_)).comm
      obtain ⟨F1, F2, hF, h1, h2, hd⟩ := g
      exact ⟨F1, F2, hF, ⟨h1.1, (own_at h1.2.1 (HC.out.aBd j hn)).1, h1.2.2⟩, h2, hd⟩

theorem Has.qlen {w0 w : World} {F0 : List Nat} {A : Asn} {la : Option Addr} {A0 : Nat → Nat} {n : Nat} (h : Has w0 F0 (A.star (listA la (aL A0 n))) w) (hn : 0 < n) : ∃ b off, la = some ⟨b, off, none⟩ ∧ ∀ i, i < n → w.cell? ⟨b, off + i, none⟩ = some (.int .i64 (A0 i : Int)) := by
  obtain ⟨b, off, e, _, hc⟩ := h.snd.list.cells (by rw [aL_length]; exact hn)
  refine ⟨b, off, e, fun i hi => ?_⟩
  rw [hc i (by rw [aL_length]; exact hi), aL_get A0 n i hi]

set_option maxRecDepth 100000 in
set_option maxHeartbeats 3200000 in
theorem awake12_any (w : World) :
    Calls Tryz.prog 21 #[] w fun e w' => e = .returned (.bool true) ∧ Keep [] w w' := by
  obtain ⟨W, K, A, hC⟩ := chain_ex 0 (by omega)
  have HC := hid hC
  clear hC
  go_enter Tryz.func21, Tryz.ntmps21
  go_wp2_with fail
  refine (heap12 0 0 HC.out (by omega) (by omega) _).mono ?_
  rintro e w1 ⟨hb, la, lc, rfl, hX⟩
  have HX := hid hX.fst
  clear hX
  go_wp2_with fail
  refine (qnew _ HX.out).mono ?_
  rintro e w2 ⟨qb, rfl, hQ⟩
  have HQ := hid hQ
  clear hQ HX
  go_wp2_with fail
  refine (qopen_yes _ HQ.out (by simp)).mono ?_
  rintro e w3 ⟨rfl, hQ3⟩
  have HQ3 := hid hQ3
  clear hQ3 HQ
  go_wp2_with fail
  refine (qpoll_empty 0 _ HQ3.out rfl).mono ?_
  rintro e w4 ⟨rfl, rfl⟩
  go_wp2_with (first | (go_at_call 9; refine (err_any _ _).mono ?_; rintro e w' ⟨rfl, rfl⟩) | (go_at_call 5; refine (qnew_nil _).mono ?_; rintro e w' ⟨rfl, rfl⟩))
  go_ret
  exact ⟨rfl, HQ3.out.K⟩

end Go.Proofs.YtdpkmebckholnaaGreat

/-
  The document's own heap: Final, Refs, a new one.
-/
namespace Go.Proofs.YtdpkmebckholnaaGreat
open Go.RowKit

section
variable {w0 : World} {F0 : List Nat} {hb : Nat} {ws : List Int} {kd : List PK} {ds : List (Int × List Int)}
end

end Go.Proofs.YtdpkmebckholnaaGreat

/-
  The document's own heap: Refs, a new one.
-/
namespace Go.Proofs.YtdpkmebckholnaaGreat
open Go.RowKit

theorem upL_snoc (q : Nat) : upL ((q + 1 : Nat) : Int) = upL (q : Int) ++ [(q : Int)] := by
  unfold upL
  rw [Int.toNat_natCast, Int.toNat_natCast, List.range_succ, List.map_append]; rfl
section
variable {w0 : World} {F0 : List Nat} {hb : Nat} {ws : List Int} {kd : List PK} {ds : List (Int × List Int)}
end

set_option maxRecDepth 100000 in
set_option maxHeartbeats 1600000 in
theorem rnewheap {w0 w : World} {F0 : List Nat} {A : Asn} (n : Nat) (h : Has w0 F0 A w) (h1 : 1 ≤ n) (h2 : n ≤ 256) :
    Calls Tryz.prog 25 #[.int .i64 n] w fun e w' => ∃ mb, e = .returned (.pointer (some ⟨mb, 0, none⟩)) ∧ Has w0 F0 (A.star (rheapA mb (zeros (64 * n)) (freshK n) [])) w' := by
  have HA := (show Hid (Has w0 F0 A w) from h)
  clear h
  go_enter Tryz.func25, Tryz.ntmps25
  go_wp2_with (first | (go_at_call 45; refine (rnews_ok n _ h1 h2).mono ?_; rintro e w1 ⟨mb, G, rfl, hR, hK, hG⟩; have HR := (show Hid (IsRef w1 mb G (zeros (64 * n)) (freshK n) ∧ Keep [] w w1 ∧ ∀ k, k ∈ G → w.heap.size ≤ k) from ⟨hR, hK, hG⟩); clear hR hK hG))
  go_ret
  obtain ⟨hR, hK, hG⟩ := HR.out
  have hK2 := Keep.alloc [] w1 (.cells #[.pointer (some ⟨mb, 0, none⟩), .slice none 0 0] 82)
  have hs := hK.size
  refine ⟨_, rfl, HA.out.more (B := rheapA w1.heap.size (zeros (64 * n)) (freshK n) []) (G := w1.heap.size :: G) (hK.trans hK2) ⟨⟨mb, [w1.heap.size], G, fun k => by simp, ⟨none, 0, [], ⟨heap_alloc_new w1 _, World.ownsRow_nil _ _ _ _, (fun a e => by cases e), (by simp), (fun i c h => by simp at h), fun k hk => by simp at hk; simp [hk]⟩, rfl⟩, hR.keep hK2 (by simp), fun k e e' => ?_⟩, Fine.fresh n h1 h2⟩ ?_⟩
  · simp at e
    have := hR.lt k e'
    omega
  · intro k hk
    simp at hk
    rcases hk with rfl | hk
    · omega
    · exact hG k hk

end Go.Proofs.YtdpkmebckholnaaGreat
