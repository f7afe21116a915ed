/-
  Contracts of what the statement calls, one text behind the other (RunsM12, FRef2, RunsM13, RefSt, OwnA, Awake9, Made13, RHeapFin, RHeapRefs, Heap12).
-/
import Derived.Test.YtamcoejlghfleaaGreatPart8
import Derived.Test.YtamcoejlghfleaaGreatPart1
import Derived.Test.YtamcoejlghfleaaGreatPart4
import Derived.Test.YtamcoejlghfleaaGreatPart7
import Derived.OwnWalk
import Derived.Test.YtamcoejlghfleaaGreatPart6

/-
  The plain mathematics of QueueRuns: what a push and a poll leave of both sides, and of the list of those that are in queues.
-/
namespace Go.Proofs.YtamcoejlghfleaaGreat
open Go.RowKit

theorem count_set (x : Int) : ∀ (Ls : List (List Int)) (k : Nat) (L L' : List Int), Ls[k]? = some L → (Ls.set k L').flatten.count x + L.count x = Ls.flatten.count x + L'.count x
  | [], k, L, L', h => by simp at h
  | M :: Ls, 0, L, L', h => by
    simp at h
    subst h
    simp [List.count_append]
    omega
  | M :: Ls, k + 1, L, L', h => by
    have := count_set x Ls k L L' (by simpa using h)
    simp [List.count_append]
    omega
/-- Rows of references that are in queues once, and the list of all that are. -/
structure Bo (kd : List PK) (ws : List Int) (Ls : List (List Int)) (I : List Int) (t : Nat) : Prop where
  fine : Fine ws kd []
  inn : ∀ x, x ∈ Ls.flatten → x ∈ I
  ref : ∀ x, x ∈ I → ∃ a : Nat, x = (a : Int) ∧ RefA kd ws a
  once : ∀ x, Ls.flatten.count x ≤ 1
  few : I.length ≤ t
  rows : ∀ L, L ∈ Ls → L.length ≤ t
/-- What Push comes to, on both sides. -/
inductive StepP (kd : List PK) (ws : List Int) (Ls : List (List Int)) (i x : Int) : Int → List Int → List (List Int) → Prop
  | none : ¬ IsQ Ls i → StepP kd ws Ls i x 2 ws Ls
  | kind (k c l E : Int) (f : Bool) : IsQ Ls i → HeadT kd ws x k c l f E → k ≠ 4 → StepP kd ws Ls i x 5 ws Ls
  | first (j a : Nat) : i = j → x = a → Ls[j]? = some [] → RefA kd ws a → StepP kd ws Ls i x 0 (ws.set (a + 3) 0) (Ls.set j [(a : Int)])
  | more (j a y : Nat) (L : List Int) : i = j → x = a → Ls[j]? = some (L ++ [(y : Int)]) → RefA kd ws a → RefA kd ws y → a ≠ y → L.length < 999999 → StepP kd ws Ls i x 0 ((ws.set (y + 3) (a : Int)).set (a + 3) 0) (Ls.set j (L ++ [(y : Int)] ++ [(a : Int)]))
/-- What Poll comes to, on both sides. -/
inductive StepO (kd : List PK) (ws : List Int) (Ls : List (List Int)) (i : Int) : Int → Int → List Int → List (List Int) → Prop
  | none : ¬ IsQ Ls i → StepO kd ws Ls i 0 2 ws Ls
  | empty (j : Nat) : i = j → Ls[j]? = some [] → StepO kd ws Ls i 0 0 ws Ls
  | yes (j a : Nat) (L : List Int) : i = j → Ls[j]? = some ((a : Int) :: L) → RefA kd ws a → StepO kd ws Ls i a 0 (ws.set (a + 3) 0) (Ls.set j L)
section
variable {kd : List PK} {ws ws' : List Int} {Ls Ls' : List (List Int)} {I : List Int} {t : Nat} {i x E N : Int}
theorem StepP.push (h : StepP kd ws Ls i x E ws' Ls') (hf : Fine ws kd []) : PushT kd ws Ls i x E ws' Ls' := by
  cases h with
  | none h => exact .none h
  | kind k c l E f h1 h2 h3 => exact .kind k c l E f h1 h2 h3
  | first j a e1 e2 hL hR => subst e1; subst e2; exact hR.pushFirst hf hL
  | more j a y L e1 e2 hL hR hY hne hl => subst e1; subst e2; exact hR.pushMore hf hL hY
theorem StepO.poll (h : StepO kd ws Ls i N E ws' Ls') (hf : Fine ws kd []) : PollT kd ws Ls i N E ws' Ls' := by
  cases h with
  | none h => exact .none h
  | empty j e h => exact .empty j e h
  | yes j a L e hL hR => subst e; exact hR.poll hf hL
theorem ref_of_at {b m : Nat} {c l : Int} {f : Bool} (h : At kd ws x b m 4 c l f) : x = (b : Int) ∧ RefA kd ws b := by
  obtain ⟨e, h1, h2⟩ := h
  have h3 := h2.1
  rw [mayH_4] at h3
  simp [inB] at h3
  obtain ⟨hf, _, hl⟩ := h3
  have hl5 : l = 5 := by omega
  subst hl5
  subst hf
  exact ⟨e, m, c, rfl, h1, h2⟩
theorem RefA.nat_ne {a b : Nat} (h : (a : Int) ≠ (b : Int)) : a ≠ b := fun e => h (by rw [e])
/-- Push of what is in no queue. -/
theorem Bo.push (h : Bo kd ws Ls I t) (ht : t ≤ 1000) (i x : Int) (hx : x ∉ I) : ∃ E ws' Ls', StepP kd ws Ls i x E ws' Ls' ∧ ((E = 0 ∧ Bo kd ws' Ls' (I ++ [x]) (t + 1)) ∨ (E ≠ 0 ∧ Bo kd ws' Ls' I (t + 1))) ∧ (E = 0 ∨ E = 2 ∨ E = 5) ∧ Ls'.length = Ls.length := by
  have hup : Bo kd ws Ls I (t + 1) := ⟨h.fine, h.inn, h.ref, h.once, by have := h.few; omega, fun L hL => by have := h.rows L hL; omega⟩
  by_cases hq : IsQ Ls i
  · obtain ⟨j, rfl⟩ := Int.eq_ofNat_of_zero_le hq.1
    have hj : j < Ls.length := by have := hq.2; omega
    rcases at_or h.fine.ob x with ⟨b, m, k, c, l, f, hA, _⟩ | hn
    · by_cases hk : k = 4
      · subst hk
        obtain ⟨rfl, hR⟩ := ref_of_at hA
        obtain ⟨L, hL⟩ : ∃ L, Ls[j]? = some L := ⟨_, List.getElem?_eq_getElem hj⟩
        have hLm := List.mem_of_getElem? hL
        have hcnt : Ls.flatten.count (b : Int) = 0 := List.count_eq_zero.2 (fun e => hx (h.inn _ e))
        have key : ∀ (M : List Int) (ws' : List Int), M = L ++ [(b : Int)] → Fine ws' kd [] → (∀ a, RefA kd ws a → RefA kd ws' a) → Bo kd ws' (Ls.set j M) (I ++ [(b : Int)]) (t + 1) := by
          intro M ws' e hf hk
          subst e
          refine ⟨hf, fun y hy => ?_, fun y hy => ?_, fun y => ?_, by simp; exact h.few, fun M hM => ?_⟩
          · have h1 := List.count_pos_iff.2 hy
            have h2 := count_set y Ls j L (L ++ [(b : Int)]) hL
            rw [List.count_append] at h2
            by_cases e : y = (b : Int)
            · subst e; simp
            · have h3 : List.count y [(b : Int)] = 0 := List.count_eq_zero.2 (by simpa using e)
              exact List.mem_append_left _ (h.inn y (List.count_pos_iff.1 (by omega)))
          · rcases List.mem_append.1 hy with e | e
            · obtain ⟨a, e1, e2⟩ := h.ref y e
              exact ⟨a, e1, hk a e2⟩
            · exact ⟨b, by simpa using e, hk b hR⟩
          · have h2 := count_set y Ls j L (L ++ [(b : Int)]) hL
            rw [List.count_append] at h2
            have h4 := h.once y
            by_cases e : y = (b : Int)
            · subst e
              have h3 : List.count (b : Int) [(b : Int)] = 1 := by simp
              omega
            · have h3 : List.count y [(b : Int)] = 0 := List.count_eq_zero.2 (by simpa using e)
              omega
          · rcases List.mem_or_eq_of_mem_set hM with e | e
            · have := h.rows M e; omega
            · subst e
              have := h.rows L hLm
              simp; omega
        rcases List.eq_nil_or_concat L with rfl | ⟨L', y, rfl⟩
        · refine ⟨_, _, _, .first j b rfl rfl hL hR, .inl ⟨rfl, key [(b : Int)] _ rfl (hR.fineSet h.fine inI_0) (fun a ha => hR.kept h.fine ha 0)⟩, .inl rfl, by rw [List.length_set]⟩
        · rw [List.concat_eq_append] at hL hLm key
          obtain ⟨z, rfl, hZ⟩ := h.ref y (h.inn y (List.mem_flatten.2 ⟨_, hLm, by simp⟩))
          have hne : b ≠ z := fun e => hx (by rw [e]; exact h.inn _ (List.mem_flatten.2 ⟨_, hLm, by simp⟩))
          have f1 := hZ.fineSet h.fine (hR.inI h.fine)
          have r1 : ∀ a, RefA kd ws a → RefA kd (ws.set (z + 3) (b : Int)) a := fun a ha => hZ.kept h.fine ha _
          have hl := h.rows _ hLm
          simp at hl
          exact ⟨_, _, _, .more j b z L' rfl rfl hL hR hZ hne (by omega), .inl ⟨rfl, key _ _ rfl ((r1 b hR).fineSet f1 inI_0) (fun a ha => (r1 b hR).kept f1 (r1 a ha) 0)⟩, .inl rfl, by rw [List.length_set]⟩
      · exact ⟨_, _, _, .kind k c l 0 f hq (.yes b m k c l f hA) hk, .inr ⟨by omega, hup⟩, .inr (.inr rfl), rfl⟩
    · exact ⟨_, _, _, .kind 0 0 0 2 false hq (.no hn) (by omega), .inr ⟨by omega, hup⟩, .inr (.inr rfl), rfl⟩
  · exact ⟨_, _, _, .none hq, .inr ⟨by omega, hup⟩, .inr (.inl rfl), rfl⟩
/-- Poll, and what is left of the list. -/
theorem Bo.poll (h : Bo kd ws Ls I t) (i : Int) : ∃ N E ws' Ls', StepO kd ws Ls i N E ws' Ls' ∧ Bo kd ws' Ls' (I.filter (fun y => y != N)) t ∧ inI N ∧ (E = 0 ∨ E = 2) ∧ Ls'.length = Ls.length := by
  have h0 : Bo kd ws Ls (I.filter (fun y => y != 0)) t := by
    refine ⟨h.fine, fun y hy => ?_, fun y hy => h.ref y (List.mem_filter.1 hy).1, h.once, Nat.le_trans (List.length_filter_le _ _) h.few, h.rows⟩
    have h1 := h.inn y hy
    refine List.mem_filter.2 ⟨h1, ?_⟩
    obtain ⟨a, rfl, ha⟩ := h.ref y h1
    have := (ha.place h.fine).2.2
    simp
    omega
  by_cases hq : IsQ Ls i
  · obtain ⟨j, rfl⟩ := Int.eq_ofNat_of_zero_le hq.1
    have hj : j < Ls.length := by have := hq.2; omega
    obtain ⟨L, hL⟩ : ∃ L, Ls[j]? = some L := ⟨_, List.getElem?_eq_getElem hj⟩
    cases L with
    | nil => exact ⟨_, _, _, _, .empty j rfl hL, h0, inI_0, .inl rfl, rfl⟩
    | cons y L =>
      have hLm := List.mem_of_getElem? hL
      obtain ⟨a, rfl, hR⟩ := h.ref y (h.inn y (List.mem_flatten.2 ⟨_, hLm, by simp⟩))
      refine ⟨_, _, _, _, .yes j a L rfl hL hR, ⟨hR.fineSet h.fine inI_0, fun z hz => ?_, fun z hz => ?_, fun z => ?_, Nat.le_trans (List.length_filter_le _ _) h.few, fun M hM => ?_⟩, hR.inI h.fine, .inl rfl, by rw [List.length_set]⟩
      · have h1 := List.count_pos_iff.2 hz
        have h2 := count_set z Ls j _ L hL
        have h4 := h.once z
        rw [List.count_cons] at h2
        refine List.mem_filter.2 ⟨h.inn z (List.count_pos_iff.1 (by omega)), ?_⟩
        by_cases e : z = (a : Int)
        · subst e
          simp at h2
          omega
        · simpa using e
      · obtain ⟨b, e1, e2⟩ := h.ref z (List.mem_filter.1 hz).1
        exact ⟨b, e1, hR.kept h.fine e2 0⟩
      · have h2 := count_set z Ls j _ L hL
        have h4 := h.once z
        rw [List.count_cons] at h2
        omega
      · rcases List.mem_or_eq_of_mem_set hM with e | e
        · exact h.rows M e
        · subst e
          have := h.rows _ hLm
          simp at this
          omega
  · exact ⟨_, _, _, _, .none hq, h0, inI_0, .inr rfl, rfl⟩
theorem Bo.opened (h : Bo kd ws Ls I t) : Bo kd ws (Ls ++ [[]]) I t :=
  ⟨h.fine, fun x hx => h.inn x (by simpa using hx), h.ref, fun x => by have := h.once x; simpa using this, h.few, fun L hL => by
    rcases List.mem_append.1 hL with e | e
    · exact h.rows L e
    · simp at e; subst e; simp⟩
end

section
variable {w0 : World} {F0 : List Nat} {rb mb : Nat} {S : Int} {ws ws' : List Int} {kd : List PK} {Ls Ls' : List (List Int)} {i x E N : Int}
theorem fpush (w : World) (h : Has w0 F0 (refsA rb mb S ws kd [] Ls) w) (hT : StepP kd ws Ls i x E ws' Ls') :
    Calls Tryz.prog 42 #[.pointer (some ⟨rb, 0, none⟩), .int .i64 i, .int .i64 x] w fun e w' => e = .returned (.int .i64 E) ∧ Has w0 F0 (refsA rb mb S ws' kd [] Ls') w' := by
  cases hT with
  | none hi =>
    refine (fpush_none i x w h hi).mono ?_
    rintro e w' ⟨rfl, rfl⟩
    exact ⟨rfl, h⟩
  | kind k c l E f hi hH hk =>
    refine (fpush_kind i x k c l E f w h hi hH hk).mono ?_
    rintro e w' ⟨rfl, hK⟩
    exact ⟨rfl, h.keep0 hK⟩
  | first j a e1 e2 hL hR => subst e1; subst e2; exact fpush_first j a w h hL hR
  | more j a y L e1 e2 hL hR hY hne hl => subst e1; subst e2; exact fpush_more j a y L w h hL hR hY hne hl
theorem fpoll (w : World) (h : Has w0 F0 (refsA rb mb S ws kd [] Ls) w) (hT : StepO kd ws Ls i N E ws' Ls') :
    Calls Tryz.prog 16 #[.pointer (some ⟨rb, 0, none⟩), .int .i64 i] w fun e w' => e = .returned (.agg #[.int .i64 N, .int .i64 E]) ∧ Has w0 F0 (refsA rb mb S ws' kd [] Ls') w' := by
  cases hT with
  | none hi =>
    refine (fpoll_none i w h hi).mono ?_
    rintro e w' ⟨rfl, hK⟩
    exact ⟨rfl, h.keep0 hK⟩
  | empty j e hL =>
    subst e
    refine (fpoll_empty j w h hL).mono ?_
    rintro e w' ⟨rfl, hK⟩
    exact ⟨rfl, h.keep0 hK⟩
  | yes j a L e hL hR => subst e; exact fpoll_yes j a L w h hL hR
end

end Go.Proofs.YtamcoejlghfleaaGreat

/-
  The document's own references: what Referent, Clear and Enqueue answer and leave.
-/
namespace Go.Proofs.YtamcoejlghfleaaGreat
open Go.RowKit

/-- What Enqueue comes to, on both sides. -/
inductive EnqS (kd : List PK) (ws : List Int) (Ls : List (List Int)) (a : Int) : Bool → Int → List Int → List (List Int) → Prop
  | kind : StrT kd ws a 0 → EnqS kd ws Ls a false 5 ws Ls
  | no (b : Nat) (c : Int) : a = b → RefC kd ws b c → ws[b + 2]?.getD 0 < 1 → EnqS kd ws Ls a false 0 (ws.set (b + 1) 0) Ls
  | yes (b : Nat) (c x E : Int) (ws' : List Int) (Ls' : List (List Int)) : a = b → RefC kd ws b c → ws[b + 2]?.getD 0 = x → 1 ≤ x → StepP kd (ws.set (b + 1) 0) Ls (x - 1) b E ws' Ls' → RefC kd ws' b c → EnqS kd ws Ls a true 0 (ws'.set (b + 2) (-1)) Ls'
theorem EnqS.enq {kd : List PK} {ws ws' : List Int} {Ls Ls' : List (List Int)} {a E : Int} {g : Bool} (h : EnqS kd ws Ls a g E ws' Ls') (hf : Fine ws kd []) : EnqT kd ws Ls a g E ws' Ls' := by
  cases h with
  | kind h => exact .kind h
  | no b c e hR hx => exact .no b c e hR hx
  | yes b c x E ws' Ls' e hR hx h1 hP hR' => exact .yes b c x E ws' Ls' e hR hx h1 (hP.push ((hR.inner hf 0 (by omega)).fine hf inI_0)) hR'
/-- The number of a Boolean. -/
def b2i (g : Bool) : Int := if g then 1 else 0

section
variable {w0 w : World} {F0 : List Nat} {rb mb : Nat} {S : Int} {ws : List Int} {kd : List PK} {ds : List (Int × List Int)} {Ls : List (List Int)}
set_option maxRecDepth 100000 in
set_option maxHeartbeats 6400000 in
theorem fread (a t N E : Int) (ws' : List Int) (w : World) (h : Has w0 F0 (refsA rb mb S ws kd ds Ls) w) (hT : ReadT kd ws a t N E ws') (ht : inI t) :
    Calls Tryz.prog 10 #[.pointer (some ⟨rb, 0, none⟩), .int .i64 a, .int .i64 t] w fun e w' => e = .returned (.agg #[.int .i64 N, .int .i64 E]) ∧ Has w0 F0 (refsA rb mb S ws' kd ds Ls) w' := by
  have hx0 := h.newB (gotObj 0 0)
  have hfi := h.fheap.rfine
  cases hT with
  | kind hS =>
    obtain ⟨k, c, l, E, f, hH, hk⟩ := hS.zero
    have HH := hid hH
    have HD := (show Hid ((k == 4) = false) from by show _ = _; simpa using hk)
    clear h hS hfi hH hk
    go_enter Tryz.func10, Tryz.ntmps10
    go_upto_region 1 with fail
    unfold gotObj at hx0
    generalize w.alloc (.cells #[.int .i64 0, .int .i64 0] 34) = w1 at *
    generalize w.heap.size = bx at *
    have HX := (show Hid (Has w0 F0 ((refsA rb mb S ws kd ds Ls).star (blockA bx (gotObj 0 0))) w1) from hx0)
    clear hx0
    go_upto_region 2 with (first | (go_at_call 38; refine (fis a k c l E f _ HX.out.fst.fheap HX.out.fst.fpart.1 HH.out).mono ?_; rw [HD.out]; rintro e w2 ⟨rfl, hK2⟩))
    have HX2 := hid (HX.out.keep0 hK2)
    clear HX hK2
    have hx2 := HX2.out.got
    obtain ⟨f0, f1⟩ := two_free hx2
    obtain ⟨d0, d1⟩ := two_cells hx2
    go_wp2_with fail
    obtain ⟨z, hk4⟩ := two_put hx2 (.int .i64 0) (.int .i64 5)
    refine bodyPost_ret (results_cell_row rfl _ _ bx 34 #[.int .i64 0, .int .i64 5] (0, 0) _ rfl z Tryz.underlying34 rfl (by kernel_rfl)) rfl ?_
    exact ⟨rfl, (HX2.out.block hk4 z).fst⟩
  | ph b e hR =>
    subst e
    have HH := hid hR.headT
    have hfh := fun (w : World) => headed_head 4 3 5 false true w
    have hfc := fun (w : World) => head_class 4 3 5 false w
    clear h hfi hR
    go_enter Tryz.func10, Tryz.ntmps10
    go_upto_region 1 with fail
    unfold gotObj at hx0
    generalize w.alloc (.cells #[.int .i64 0, .int .i64 0] 34) = w1 at *
    generalize w.heap.size = bx at *
    have HX := (show Hid (Has w0 F0 ((refsA rb mb S ws kd ds Ls).star (blockA bx (gotObj 0 0))) w1) from hx0)
    clear hx0
    go_upto_region 3 with (first | (go_at_call 38; refine (fis b 4 3 5 0 false _ HX.out.fst.fheap HX.out.fst.fpart.1 HH.out).mono ?_; rintro e w2 ⟨rfl, hK2⟩))
    have HX2 := hid (HX.out.keep0 hK2)
    clear HX hK2
    obtain ⟨c0, _⟩ := HX2.out.fst.fpart
    go_upto_region 5 with (first | (go_at_call 39; refine (rhead b 4 3 5 0 false _ HX2.out.fst.fheap HH.out).mono ?_; rw [show okE 0 = true from rfl]; rintro e w3 ⟨rfl, hK3⟩))
    have HX3 := hid (HX2.out.keep0 hK3)
    clear HX2 hK3 c0
    have hx3 := HX3.out.got
    obtain ⟨f0, f1⟩ := two_free hx3
    obtain ⟨d0, d1⟩ := two_cells hx3
    go_wp2_with fail
    obtain ⟨z, hk4⟩ := two_put hx3 (.int .i64 0) (.int .i64 0)
    refine bodyPost_ret (results_cell_row rfl _ _ bx 34 #[.int .i64 0, .int .i64 0] (0, 0) _ rfl z Tryz.underlying34 rfl (by kernel_rfl)) rfl ?_
    exact ⟨rfl, (HX3.out.block hk4 z).fst⟩
  | plain b c N e hR hc3 hN hor =>
    subst e
    have HH := hid hR.headT
    have HF := (show Hid (FieldT kd ws (b : Int) 0 N 0) from by
      have := hR.field hfi 0 (by omega)
      rw [show b + 1 + 0 = b + 1 from rfl, hN] at this
      exact this)
    have e3 : (c == 3) = false := by rw [beq_eq_false_iff_ne]; exact hc3
    have HOR := (show Hid ((c == 1) = false ∨ ((c == 1) = true ∧ N = 0)) from by
      rcases hor with h | h
      · left; rw [beq_eq_false_iff_ne]; exact h
      · by_cases hc : c = 1
        · right; exact ⟨by simpa using hc, h⟩
        · left; rw [beq_eq_false_iff_ne]; exact hc)
    have hfh := fun (w : World) => headed_head 4 c 5 false true w
    have hfc := fun (w : World) => head_class 4 c 5 false w
    clear h hfi hR hN hc3 hor
    go_enter Tryz.func10, Tryz.ntmps10
    go_upto_region 1 with fail
    unfold gotObj at hx0
    generalize w.alloc (.cells #[.int .i64 0, .int .i64 0] 34) = w1 at *
    generalize w.heap.size = bx at *
    have HX := (show Hid (Has w0 F0 ((refsA rb mb S ws kd ds Ls).star (blockA bx (gotObj 0 0))) w1) from hx0)
    clear hx0
    go_upto_region 3 with (first | (go_at_call 38; refine (fis b 4 c 5 0 false _ HX.out.fst.fheap HX.out.fst.fpart.1 HH.out).mono ?_; rintro e w2 ⟨rfl, hK2⟩))
    have HX2 := hid (HX.out.keep0 hK2)
    clear HX hK2
    obtain ⟨c0, _⟩ := HX2.out.fst.fpart
    go_upto_region 6 with (first | (go_at_call 39; refine (rhead b 4 c 5 0 false _ HX2.out.fst.fheap HH.out).mono ?_; rw [show okE 0 = true from rfl]; rintro e w3 ⟨rfl, hK3⟩))
    have HX3 := hid (HX2.out.keep0 hK3)
    clear HX2 hK3 c0
    obtain ⟨c0, _⟩ := HX3.out.fst.fpart
    go_upto_region 7 with (first | (go_at_call 40; refine (rfield b 0 N 0 _ HX3.out.fst.fheap HF.out).mono ?_; rintro e w4 ⟨rfl, hK4⟩))
    have hg := heap_alloc_new w4 (.cells #[.int .i64 N, .int .i64 0] 34)
    have HX5 := hid ((HX3.out.keep0 hK4).keep0 (Keep.alloc [] w4 (.cells #[.int .i64 N, .int .i64 0] 34)))
    clear HX3 hK4 c0
    generalize w4.alloc (.cells #[.int .i64 N, .int .i64 0] 34) = w5 at *
    generalize w4.heap.size = bg at *
    obtain ⟨g0, g1⟩ := two_cells hg
    have hx5 := HX5.out.got
    obtain ⟨f0, f1⟩ := two_free hx5
    obtain ⟨d0, d1⟩ := two_cells hx5
    rcases HOR.out with e1 | ⟨e1, rfl⟩
    · clear HOR
      go_wp2_with fail
      obtain ⟨z, hk5⟩ := two_put hx5 (.int .i64 N) (.int .i64 0)
      refine bodyPost_ret (results_cell_row rfl _ _ bx 34 #[.int .i64 N, .int .i64 0] (0, 0) _ rfl z Tryz.underlying34 rfl (by kernel_rfl)) rfl ?_
      exact ⟨rfl, (HX5.out.block hk5 z).fst⟩
    · clear HOR
      go_wp2_with fail
      obtain ⟨z, hk5⟩ := two_put hx5 (.int .i64 0) (.int .i64 0)
      refine bodyPost_ret (results_cell_row rfl _ _ bx 34 #[.int .i64 0, .int .i64 0] (0, 0) _ rfl z Tryz.underlying34 rfl (by kernel_rfl)) rfl ?_
      exact ⟨rfl, (HX5.out.block hk5 z).fst⟩
  | soft b N e hR hN hN0 =>
    subst e
    have HH := hid hR.headT
    have HF := (show Hid (FieldT kd ws (b : Int) 0 N 0) from by
      have := hR.field hfi 0 (by omega)
      rw [show b + 1 + 0 = b + 1 from rfl, hN] at this
      exact this)
    have HP := (show Hid (PutT kd ws (b : Int) 3 t 0 (ws.set (b + 4) t)) from hR.put hfi 3 (by omega) t)
    have en : (N != 0) = true := by simpa using hN0
    have en' : (N == 0) = false := by simpa using hN0
    have HT := hid ht
    have hfh := fun (w : World) => headed_head 4 1 5 false true w
    have hfc := fun (w : World) => head_class 4 1 5 false w
    clear h hfi hR hN hN0 ht
    go_enter Tryz.func10, Tryz.ntmps10
    go_upto_region 1 with fail
    unfold gotObj at hx0
    generalize w.alloc (.cells #[.int .i64 0, .int .i64 0] 34) = w1 at *
    generalize w.heap.size = bx at *
    have HX := (show Hid (Has w0 F0 ((refsA rb mb S ws kd ds Ls).star (blockA bx (gotObj 0 0))) w1) from hx0)
    clear hx0
    go_upto_region 3 with (first | (go_at_call 38; refine (fis b 4 1 5 0 false _ HX.out.fst.fheap HX.out.fst.fpart.1 HH.out).mono ?_; rintro e w2 ⟨rfl, hK2⟩))
    have HX2 := hid (HX.out.keep0 hK2)
    clear HX hK2
    obtain ⟨c0, _⟩ := HX2.out.fst.fpart
    go_upto_region 6 with (first | (go_at_call 39; refine (rhead b 4 1 5 0 false _ HX2.out.fst.fheap HH.out).mono ?_; rw [show okE 0 = true from rfl]; rintro e w3 ⟨rfl, hK3⟩))
    have HX3 := hid (HX2.out.keep0 hK3)
    clear HX2 hK3 c0
    obtain ⟨c0, _⟩ := HX3.out.fst.fpart
    go_upto_region 7 with (first | (go_at_call 40; refine (rfield b 0 N 0 _ HX3.out.fst.fheap HF.out).mono ?_; rintro e w4 ⟨rfl, hK4⟩))
    have hx5 := (HX3.out.keep0 hK4).newB (gotObj N 0)
    clear HX3 hK4 c0
    unfold gotObj at hx5
    generalize w4.alloc (.cells #[.int .i64 N, .int .i64 0] 34) = w5 at *
    generalize w4.heap.size = bg at *
    have HX5 := (show Hid (Has w0 F0 ((refsA rb mb S ws kd ds Ls).star ((blockA bx (gotObj 0 0)).star (blockA bg (gotObj N 0)))) w5) from hx5.assoc)
    clear hx5
    obtain ⟨c0, _⟩ := HX5.out.fst.fpart
    obtain ⟨g0, g1⟩ := two_cells HX5.out.assoc'.got
    go_upto_region 9 with (first | (go_at_call 35; refine (has_lheap HX5.out (fun F hF => rput b 3 t 0 _ _ hF HP.out HT.out)).mono ?_; rintro e w6 ⟨rfl, hX6⟩))
    have HX6 := hid hX6
    clear hX6 HX5 c0 g0 g1
    obtain ⟨g0, g1⟩ := two_cells HX6.out.assoc'.got
    have hx6 : w6.heap[bx]? = some (.cells #[.int .i64 0, .int .i64 0] 34 (0, 0)) := HX6.out.snd.fst.fact (fun _ h => h.2)
    obtain ⟨f0, f1⟩ := two_free hx6
    obtain ⟨d0, d1⟩ := two_cells hx6
    go_wp2_with fail
    obtain ⟨z, hk6⟩ := two_put hx6 (.int .i64 N) (.int .i64 0)
    refine bodyPost_ret (results_cell_row rfl _ _ bx 34 #[.int .i64 N, .int .i64 0] (0, 0) _ rfl z Tryz.underlying34 rfl (by kernel_rfl)) rfl ?_
    exact ⟨rfl, (HX6.out.assoc'.fst.block hk6 z).fst⟩

set_option maxRecDepth 100000 in
set_option maxHeartbeats 6400000 in
theorem fclear {B : Asn} (la : Option Addr) (n cp : Nat) (L : List Int) (E : Int) (ws' : List Int) (w : World) (h : Has w0 F0 ((refsA rb mb S ws kd ds Ls).star B) w) (hB : ∀ w F, B.at' w F → IntsAt w la L) (hn : L.length = n) (hn6 : n ≤ 1000000) (hT : ClearT kd ws L E ws') :
    Calls Tryz.prog 12 #[.pointer (some ⟨rb, 0, none⟩), .slice la n cp] w fun e w' => e = .returned (.int .i64 E) ∧ Has w0 F0 ((refsA rb mb S ws' kd ds Ls).star B) w' := by
  have HX := hid h
  have HN := hid hn
  have HB := hid hB
  clear hB
  have HFI := hid h.fst.fheap.rfine
  cases hT with
  | kind j0 hj0 hR hS =>
    have HR := hid hR
    obtain ⟨k, c, l, E, f, hH, hk⟩ := hS.zero
    have HH := hid hH
    have HD := (show Hid ((k == 4) = false) from by show _ = _; simpa using hk)
    have hjn : j0 < n := by omega
    clear h hn hR hS hj0 hH hk
    go_enter Tryz.func12, Tryz.ntmps12
    go_wp2_with fail
    go_loopw [5] (fun i wr => ∃ j : Nat, i = .int .i64 j ∧ j ≤ j0 ∧ Hid (Keep [] w wr)) (fun i _ => j0 - (intOf i).toNat)
    case atStart => exact ⟨0, rfl, by omega, Keep.refl _ _⟩
    case round =>
      obtain ⟨j, rfl, hj, HK⟩ := hrel
      obtain ⟨w1, rfl⟩ : ∃ w1, w1 = wr := ⟨_, rfl⟩
      have HX1 := hid (HX.out.keep0 HK.out)
      have hlt : j < n := by omega
      have hd : decide (j < n) = true := decide_eq_true hlt
      have hd' : decide ((j : Int) < (n : Int)) = true := decide_eq_true (by omega)
      obtain ⟨lb, lo, rfl, _, hcs⟩ := (HX1.out.snd.fact (fun F h => HB.out _ F h)).cells (by have := HN.out; omega)
      have hc := hcs j (by have := HN.out; omega)
      by_cases he : j < j0
      · obtain ⟨b, cc, e, hR⟩ := HR.out j he
        rw [e] at hc
        have HST := hid hR.headT
        clear hcs e hR
        go_wp2_with (first | (go_at_call 38; refine (fis b 4 cc 5 0 false _ HX1.out.fst.fheap HX1.out.fst.fpart.1 HST.out).mono ?_; rintro e w2 ⟨rfl, hK2⟩))
        go_roundw
        case rel => exact ⟨j + 1, by go_num, by omega, HK.out.trans hK2⟩
        case measure => simp [intOf]; omega
      · obtain rfl : j = j0 := by omega
        clear hcs
        generalize L[j]?.getD 0 = y at *
        go_wp2_with (first | (go_at_call 38; refine (fis y k c l E f _ HX1.out.fst.fheap HX1.out.fst.fpart.1 HH.out).mono ?_; rw [HD.out]; rintro e w2 ⟨rfl, hK2⟩))
        go_ret
        exact ⟨rfl, HX1.out.keep0 hK2⟩
  | yes hR =>
    have HR := hid hR
    clear h hn hR
    go_enter Tryz.func12, Tryz.ntmps12
    go_wp2_with fail
    go_loopw [5] (fun i wr => ∃ j : Nat, i = .int .i64 j ∧ j ≤ n ∧ Hid (Keep [] w wr)) (fun i _ => n - (intOf i).toNat)
    case atStart => exact ⟨0, rfl, by omega, Keep.refl _ _⟩
    case round =>
      obtain ⟨j, rfl, hj, HK⟩ := hrel
      obtain ⟨w1, rfl⟩ : ∃ w1, w1 = wr := ⟨_, rfl⟩
      have HX1 := hid (HX.out.keep0 HK.out)
      by_cases hlt : j < n
      · have hd : decide (j < n) = true := decide_eq_true hlt
        have hd' : decide ((j : Int) < (n : Int)) = true := decide_eq_true (by omega)
        obtain ⟨lb, lo, rfl, _, hcs⟩ := (HX1.out.snd.fact (fun F h => HB.out _ F h)).cells (by have := HN.out; omega)
        have hc := hcs j (by have := HN.out; omega)
        obtain ⟨b, c, e, hR⟩ := HR.out j (by have := HN.out; omega)
        rw [e] at hc
        have HST := hid hR.headT
        clear hcs e hR
        go_wp2_with (first | (go_at_call 38; refine (fis b 4 c 5 0 false _ HX1.out.fst.fheap HX1.out.fst.fpart.1 HST.out).mono ?_; rintro e w2 ⟨rfl, hK2⟩))
        go_roundw
        case rel => exact ⟨j + 1, by go_num, by omega, HK.out.trans hK2⟩
        case measure => simp [intOf]; omega
      · have hd : decide (j < n) = false := decide_eq_false hlt
        have hd' : decide ((j : Int) < (n : Int)) = false := decide_eq_false (by omega)
        have HX2 := (show Hid (Has w0 F0 ((refsA rb mb S (clrN ws L 0) kd ds Ls).star B) w1) from HX1.out)
        clear HX HK HX1 hlt
        go_wp2_with fail
        go_loopw [6] (fun i wr => ∃ k : Nat, i = .int .i64 k ∧ k ≤ n ∧ Hid (Has w0 F0 ((refsA rb mb S (clrN ws L k) kd ds Ls).star B) wr)) (fun i _ => n - (intOf i).toNat)
        case atStart => exact ⟨0, rfl, by omega, HX2⟩
        case round =>
          obtain ⟨k, rfl, hk, HX3⟩ := hrel
          obtain ⟨w3, rfl⟩ : ∃ w3, w3 = wr := ⟨_, rfl⟩
          clear HX2 hd hd' hj
          by_cases hlt : k < n
          · have hd : decide (k < n) = true := decide_eq_true hlt
            have hd' : decide ((k : Int) < (n : Int)) = true := decide_eq_true (by omega)
            have hk0 : (0 : Int) ≤ k := by omega
            have hkn : (k : Int) < n := by omega
            obtain ⟨lb, lo, rfl, _, hcs⟩ := (HX3.out.snd.fact (fun F h => HB.out _ F h)).cells (by have := HN.out; omega)
            have hc := hcs k (by have := HN.out; omega)
            have HP := hid (clrN_put HFI.out HR.out k (by have := HN.out; omega))
            obtain ⟨c0, _⟩ := HX3.out.fst.fpart
            generalize L[k]?.getD 0 = y at *
            clear hcs
            go_upto_region 9 with fail
            go_region_law (first | (go_simp; refine (has_lheap (HX3.out.keep0 (Keep.drew [] _)) (fun F hF => rput y 0 0 0 _ _ hF HP.out inI_0)).mono ?_; rintro e w4 ⟨rfl, hX4⟩))
            all_goals
              go_wp2_with fail
              go_roundw
              case rel => exact ⟨k + 1, by go_num, by omega, hX4⟩
              case measure => simp [intOf]; omega
          · obtain rfl : k = n := by omega
            have hd : decide (k < k) = false := decide_eq_false hlt
            have hd' : decide ((k : Int) < (k : Int)) = false := decide_eq_false (by omega)
            go_wp2_with fail
            go_ret
            rw [HN.out]
            exact ⟨rfl, HX3.out⟩
end

section
variable {w0 w : World} {F0 : List Nat} {rb mb : Nat} {S : Int} {ws : List Int} {kd : List PK} {Ls : List (List Int)}
set_option maxRecDepth 100000 in
set_option maxHeartbeats 6400000 in
theorem fenq (a E : Int) (g : Bool) (ws' : List Int) (Ls' : List (List Int)) (w : World) (h : Has w0 F0 (refsA rb mb S ws kd [] Ls) w) (hT : EnqS kd ws Ls a g E ws' Ls') :
    Calls Tryz.prog 14 #[.pointer (some ⟨rb, 0, none⟩), .int .i64 a] w fun e w' => e = .returned (.agg #[.int .i64 (b2i g), .int .i64 E]) ∧ Has w0 F0 (refsA rb mb S ws' kd [] Ls') w' := by
  have hx0 := h.newB (gotObj 0 0)
  have hfi := h.fheap.rfine
  cases hT with
  | kind hS =>
    obtain ⟨k, c, l, E, f, hH, hk⟩ := hS.zero
    have HH := hid hH
    have HD := (show Hid ((k == 4) = false) from by show _ = _; simpa using hk)
    clear h hS hfi hH hk
    go_enter Tryz.func14, Tryz.ntmps14
    go_upto_region 1 with fail
    unfold gotObj at hx0
    generalize w.alloc (.cells #[.int .i64 0, .int .i64 0] 34) = w1 at *
    generalize w.heap.size = bx at *
    have HX := (show Hid (Has w0 F0 ((refsA rb mb S ws kd [] Ls).star (blockA bx (gotObj 0 0))) w1) from hx0)
    clear hx0
    go_upto_region 2 with (first | (go_at_call 38; refine (fis a k c l E f _ HX.out.fst.fheap HX.out.fst.fpart.1 HH.out).mono ?_; rw [HD.out]; rintro e w2 ⟨rfl, hK2⟩))
    have HX2 := hid (HX.out.keep0 hK2)
    clear HX hK2
    have hx2 := HX2.out.got
    obtain ⟨f0, f1⟩ := two_free hx2
    obtain ⟨d0, d1⟩ := two_cells hx2
    go_wp2_with fail
    obtain ⟨z, hk4⟩ := two_put hx2 (.int .i64 0) (.int .i64 5)
    refine bodyPost_ret (results_cell_row rfl _ _ bx 34 #[.int .i64 0, .int .i64 5] (0, 0) _ rfl z Tryz.underlying34 rfl (by kernel_rfl)) rfl ?_
    exact ⟨rfl, (HX2.out.block hk4 z).fst⟩
  | no b c e hR hx =>
    subst e
    have HH := hid hR.headT
    have hi := hR.inner hfi 0 (by omega)
    have hf2 := hi.fine hfi inI_0
    have HP := (show Hid (PutT kd ws (b : Int) 0 0 0 (ws.set (b + 1) 0)) from hR.put hfi 0 (by omega) 0)
    have hF := (hR.set hfi.wf hi 0).field hf2 1 (by omega)
    have hx2 : (ws.set (b + 1) 0)[b + 1 + 1]?.getD 0 = ws[b + 2]?.getD 0 := set_get_other _ _ _ _ (by omega)
    rw [hx2] at hF
    generalize ws[b + 2]?.getD 0 = x at *
    have HF := (show Hid (FieldT kd (ws.set (b + 1) 0) (b : Int) 1 x 0) from hF)
    have hgn := fun (w : World) => got_num x 0 w
    clear h hfi hR hi hf2 hF hx2
    go_enter Tryz.func14, Tryz.ntmps14
    go_upto_region 1 with fail
    unfold gotObj at hx0
    generalize w.alloc (.cells #[.int .i64 0, .int .i64 0] 34) = w1 at *
    generalize w.heap.size = bx at *
    have HX := (show Hid (Has w0 F0 ((refsA rb mb S ws kd [] Ls).star (blockA bx (gotObj 0 0))) w1) from hx0)
    clear hx0
    go_upto_region 3 with (first | (go_at_call 38; refine (fis b 4 c 5 0 false _ HX.out.fst.fheap HX.out.fst.fpart.1 HH.out).mono ?_; rintro e w2 ⟨rfl, hK2⟩))
    have HX2 := hid (HX.out.keep0 hK2)
    clear HX hK2
    obtain ⟨c0, _⟩ := HX2.out.fst.fpart
    go_upto_region 4 with (first | (go_at_call 35; refine (has_lheap HX2.out (fun F hF => rput b 0 0 0 _ _ hF HP.out inI_0)).mono ?_; rintro e w3 ⟨rfl, hX3⟩))
    have HX3 := hid hX3
    clear hX3 HX2 c0
    obtain ⟨c0, _⟩ := HX3.out.fst.fpart
    go_upto_region 6 with (first | (go_at_call 40; refine (rfield b 1 x 0 _ HX3.out.fst.fheap HF.out).mono ?_; rintro e w4 ⟨rfl, hK4⟩))
    have HX4 := hid (HX3.out.keep0 hK4)
    clear HX3 hK4 c0
    have hx4 := HX4.out.got
    obtain ⟨f0, f1⟩ := two_free hx4
    obtain ⟨d0, d1⟩ := two_cells hx4
    go_wp2_with fail
    obtain ⟨z, hk4⟩ := two_put hx4 (.int .i64 0) (.int .i64 0)
    refine bodyPost_ret (results_cell_row rfl _ _ bx 34 #[.int .i64 0, .int .i64 0] (0, 0) _ rfl z Tryz.underlying34 rfl (by kernel_rfl)) rfl ?_
    exact ⟨rfl, (HX4.out.block hk4 z).fst⟩
  | yes b c x E ws' Ls' e hR hx hx1 hP hR' =>
    subst e
    have HH := hid hR.headT
    have hi := hR.inner hfi 0 (by omega)
    have hf2 := hi.fine hfi inI_0
    have HPA := (show Hid (PutT kd ws (b : Int) 0 0 0 (ws.set (b + 1) 0)) from hR.put hfi 0 (by omega) 0)
    have hF := (hR.set hfi.wf hi 0).field hf2 1 (by omega)
    have hx2 : (ws.set (b + 1) 0)[b + 1 + 1]?.getD 0 = ws[b + 2]?.getD 0 := set_get_other _ _ _ _ (by omega)
    rw [hx2, hx] at hF
    have HF := (show Hid (FieldT kd (ws.set (b + 1) 0) (b : Int) 1 x 0) from hF)
    have hgn := fun (w : World) => got_num x 0 w
    have HPU := hid hP
    have HR := hid hR'
    have hxi : inI x := by rw [← hx]; exact hfi.ob.bd _
    obtain ⟨_, hx3⟩ := hxi
    clear h hfi hR hi hf2 hF hx2 hx hP hR'
    go_enter Tryz.func14, Tryz.ntmps14
    go_upto_region 1 with fail
    unfold gotObj at hx0
    generalize w.alloc (.cells #[.int .i64 0, .int .i64 0] 34) = w1 at *
    generalize w.heap.size = bx at *
    have HX := (show Hid (Has w0 F0 ((refsA rb mb S ws kd [] Ls).star (blockA bx (gotObj 0 0))) w1) from hx0)
    clear hx0
    go_upto_region 3 with (first | (go_at_call 38; refine (fis b 4 c 5 0 false _ HX.out.fst.fheap HX.out.fst.fpart.1 HH.out).mono ?_; rintro e w2 ⟨rfl, hK2⟩))
    have HX2 := hid (HX.out.keep0 hK2)
    clear HX hK2 HH
    obtain ⟨c0, _⟩ := HX2.out.fst.fpart
    go_upto_region 4 with (first | (go_at_call 35; refine (has_lheap HX2.out (fun F hF => rput b 0 0 0 _ _ hF HPA.out inI_0)).mono ?_; rintro e w3 ⟨rfl, hX3⟩))
    have HX3 := hid hX3
    clear hX3 HX2 c0 HPA
    obtain ⟨c0, _⟩ := HX3.out.fst.fpart
    go_upto_region 7 with (first | (go_at_call 40; refine (rfield b 1 x 0 _ HX3.out.fst.fheap HF.out).mono ?_; rintro e w4 ⟨rfl, hK4⟩))
    have HX4 := hid (HX3.out.keep0 hK4)
    clear HX3 hK4 c0 HF
    go_upto_region 8 with (first | (go_at_call 42; refine (has_left HX4.out (fun F hF => fpush _ hF HPU.out)).mono ?_; rintro e w5 ⟨rfl, hX5⟩))
    have HX5 := hid hX5
    clear hX5 HX4 HPU
    have HP2 := hid (HR.out.put HX5.out.fst.fheap.rfine 1 (by omega) (-1))
    obtain ⟨c0, _⟩ := HX5.out.fst.fpart
    go_upto_region 9 with (first | (go_at_call 35; refine (has_lheap HX5.out (fun F hF => rput b 1 (-1) 0 _ _ hF HP2.out ⟨by omega, by omega⟩)).mono ?_; rintro e w6 ⟨rfl, hX6⟩))
    have HX6 := hid hX6
    clear hX6 HX5 c0 HP2
    have hx6 := HX6.out.got
    obtain ⟨f0, f1⟩ := two_free hx6
    obtain ⟨d0, d1⟩ := two_cells hx6
    go_wp2_with fail
    obtain ⟨z, hk4⟩ := two_put hx6 (.int .i64 1) (.int .i64 0)
    refine bodyPost_ret (results_cell_row rfl _ _ bx 34 #[.int .i64 1, .int .i64 0] (0, 0) _ rfl z Tryz.underlying34 rfl (by kernel_rfl)) rfl ?_
    exact ⟨rfl, (HX6.out.block hk4 z).fst⟩
end

end Go.Proofs.YtamcoejlghfleaaGreat

/-
  The plain mathematics of RefRuns: what each call leaves of the words and of the rows.
-/
namespace Go.Proofs.YtamcoejlghfleaaGreat
open Go.RowKit

/-- Rows of references that were put there, each once, for good. -/
structure Rn (kd : List PK) (ws : List Int) (Ls : List (List Int)) (t : Nat) : Prop where
  fine : Fine ws kd []
  row : ∀ x, x ∈ Ls.flatten → ∃ a : Nat, x = (a : Int) ∧ RefA kd ws a ∧ ws[a + 2]?.getD 0 < 1
  once : ∀ x, Ls.flatten.count x ≤ 1
  rows : ∀ L, L ∈ Ls → L.length ≤ t
  two : Ls.length = 2
section
variable {kd kd' : List PK} {ws ws' : List Int} {Ls Ls' : List (List Int)} {t b i : Nat} {x c : Int}
theorem Rn.up (h : Rn kd ws Ls t) : Rn kd ws Ls (t + 1) := ⟨h.fine, h.row, h.once, fun L hL => by have := h.rows L hL; omega, h.two⟩
theorem Rn.setF (h : Rn kd ws Ls t) (hR : RefC kd ws b c) (hi : i < 5) (hx : inI x) (ho : i ≠ 1 ∨ x < 1 ∨ (b : Int) ∉ Ls.flatten) : Rn kd (ws.set (b + 1 + i) x) Ls t := by
  have hin := hR.inner h.fine i hi
  refine ⟨hin.fine h.fine hx, fun y hy => ?_, h.once, h.rows, h.two⟩
  obtain ⟨a, e, hA, hq⟩ := h.row y hy
  refine ⟨a, e, hA.set h.fine.wf hin x, ?_⟩
  obtain ⟨ca, hC⟩ := hA.refC
  by_cases hp : b + 1 + i = a + 2
  · obtain ⟨e1, e2⟩ := hR.apart hC h.fine hi (j := 1) (by omega) (by omega)
    have hl := hin.lt h.fine
    rw [hp] at hl ⊢
    rw [set_get_same _ _ _ hl]
    rcases ho with g | g | g
    · exact absurd e2 g
    · exact g
    · rw [e1, ← e] at g
      exact absurd hy g
  · rw [set_get_other _ _ _ _ hp]
    exact hq
theorem Rn.make {s : Int} (h : Rn kd ws Ls t) (hT : MakeT kd ws [] 4 s 5 false b 0 ws' kd') : Rn kd' ws' Ls t ∧ (b : Int) ∉ Ls.flatten := by
  obtain ⟨hR, hf, hl, hold, hnew⟩ := hT.ref h.fine
  refine ⟨⟨hf, fun y hy => ?_, h.once, h.rows, h.two⟩, fun hy => ?_⟩
  · obtain ⟨a, e, ⟨m, ca, hA⟩, hq⟩ := h.row y hy
    have hrm := at_room h.fine hA
    obtain ⟨g1, g2, g3⟩ := hold a m _ _ _ _ hA
    exact ⟨a, e, ⟨m, ca, g1⟩, by rw [g3 2 (by omega)]; exact hq⟩
  · obtain ⟨a, e, ⟨m, ca, hA⟩, hq⟩ := h.row _ hy
    have hrm := at_room h.fine hA
    obtain ⟨_, g2, _⟩ := hold a m _ _ _ _ hA
    omega
theorem Rn.refer {S s a q u N E S' : Int} (h : Rn kd ws Ls t) (hT : ReferT kd ws [] 2 S s a q u N E ws' kd' S') (ha : inI a) (hu : inI u) (hS : inI (S + 1)) : Rn kd' ws' Ls t ∧ inI N ∧ ((S' = S ∧ E ≠ 0) ∨ (S' = S + 1 ∧ E = 0)) := by
  cases hT with
  | may E hM hE => exact ⟨h, inI_0, .inl ⟨rfl, hE⟩⟩
  | full E hM hMk hE => exact ⟨h, inI_0, .inl ⟨rfl, hE⟩⟩
  | yes b ws1 kd' hM hMk hR =>
    obtain ⟨h1, hb⟩ := h.make hMk
    have hz := hM.zero
    have r0 := hR.set h1.fine.wf (hR.inner h1.fine 0 (by omega)) a
    have g0 := h1.setF hR (i := 0) (by omega) ha (.inl (by omega))
    have hq : inI (q + 1) := ⟨by omega, by omega⟩
    have r1 := r0.set g0.fine.wf (r0.inner g0.fine 1 (by omega)) (q + 1)
    have g1 := g0.setF r0 (i := 1) (by omega) hq (.inr (.inr hb))
    have r3 := r1.set g1.fine.wf (r1.inner g1.fine 3 (by omega)) u
    have g3 := g1.setF r1 (i := 3) (by omega) hu (.inl (by omega))
    have g4 := g3.setF r3 (i := 4) (by omega) hS (.inl (by omega))
    exact ⟨g4, hR.inI h1.fine, .inr ⟨rfl, rfl⟩⟩
theorem Rn.read {a u N E : Int} (h : Rn kd ws Ls t) (hT : ReadT kd ws a u N E ws') (hu : inI u) : Rn kd ws' Ls t := by
  cases hT with
  | kind _ => exact h
  | ph b _ _ => exact h
  | plain b c N _ _ _ _ _ => exact h
  | soft b N e hR _ _ => exact h.setF hR (i := 3) (by omega) hu (.inl (by omega))
theorem Rn.clear {L : List Int} {E : Int} (h : Rn kd ws Ls t) (hT : ClearT kd ws L E ws') : Rn kd ws' Ls t := by
  cases hT with
  | kind j _ _ _ => exact h
  | yes hr =>
    have key : ∀ n, n ≤ L.length → Rn kd (clrN ws L n) Ls t := by
      intro n
      induction n with
      | zero => intro _; exact h
      | succ n ih =>
        intro hn
        obtain ⟨b, c, e, hR⟩ := hr n (by omega)
        have hR' := (clrN_step h.fine hr n (by omega)).2.1 b c hR
        have g := (ih (by omega)).setF hR' (i := 0) (by omega) inI_0 (.inl (by omega))
        show Rn kd ((clrN ws L n).set ((L[n]?.getD 0).toNat + 1) 0) Ls t
        rw [e]
        exact g
    exact key _ (Nat.le_refl _)
/-- What a push leaves of the second field of all. -/
theorem StepP.word {j E : Int} (h : StepP kd ws Ls j x E ws' Ls') (hf : Fine ws kd []) {a : Nat} {ca : Int} (hA : RefC kd ws a ca) : ws'[a + 2]?.getD 0 = ws[a + 2]?.getD 0 ∧ RefC kd ws' a ca := by
  cases h with
  | none _ => exact ⟨rfl, hA⟩
  | kind k c l E f _ _ _ => exact ⟨rfl, hA⟩
  | first j b _ _ _ hR =>
    obtain ⟨cb, hB⟩ := hR.refC
    refine ⟨set_get_other _ _ _ _ (fun e => ?_), hA.set hf.wf (hB.inner hf 2 (by omega)) 0⟩
    have := (hB.apart hA hf (i := 2) (j := 1) (by omega) (by omega) (by omega)).2
    omega
  | more j b y L _ _ _ hR hY _ _ =>
    obtain ⟨cb, hB⟩ := hR.refC
    obtain ⟨cy, hYC⟩ := hY.refC
    have hiy := hYC.inner hf 2 (by omega)
    have hbI := hR.inI hf
    have f1 := hiy.fine hf hbI
    have A1 := hA.set hf.wf hiy (b : Int)
    have B1 := hB.set hf.wf hiy (b : Int)
    refine ⟨?_, A1.set f1.wf (B1.inner f1 2 (by omega)) 0⟩
    rw [set_get_other _ _ _ _ (fun e => by
      have := (hB.apart hA hf (i := 2) (j := 1) (by omega) (by omega) (by omega)).2
      omega), set_get_other _ _ _ _ (fun e => by
      have := (hYC.apart hA hf (i := 2) (j := 1) (by omega) (by omega) (by omega)).2
      omega)]
theorem StepP.rows {j E : Int} (h : StepP kd ws Ls j x E ws' Ls') (hr : ∀ L, L ∈ Ls → L.length ≤ t) : ∀ L, L ∈ Ls' → L.length ≤ t + 1 := by
  intro M hM
  cases h with
  | none _ => have := hr M hM; omega
  | kind k c l E f _ _ _ => have := hr M hM; omega
  | first j b _ _ _ _ =>
    rcases List.mem_or_eq_of_mem_set hM with e | e
    · have := hr M e; omega
    · subst e; simp
  | more j b y L _ _ hL _ _ _ _ =>
    rcases List.mem_or_eq_of_mem_set hM with e | e
    · have := hr M e; omega
    · subst e
      have := hr _ (List.mem_of_getElem? hL)
      simp at this ⊢
      omega
theorem flat_two (h : Ls.length = 2) (hr : ∀ L, L ∈ Ls → L.length ≤ t) : Ls.flatten.length ≤ 2 * t := by
  match Ls, h with
  | [A, B], _ =>
    have h1 := hr A (by simp)
    have h2 := hr B (by simp)
    simp
    omega
theorem Rn.bo (h : Rn kd ws Ls t) : Bo kd ws Ls Ls.flatten (2 * t) :=
  ⟨h.fine, fun x hx => hx, fun x hx => by
    obtain ⟨a, e, hA, _⟩ := h.row x hx
    exact ⟨a, e, hA⟩, h.once, flat_two h.two h.rows, fun L hL => by have := h.rows L hL; omega⟩
/-- Enqueue, whatever is asked. -/
theorem Rn.enq (h : Rn kd ws Ls t) (ht : t ≤ 400) (a : Int) : ∃ g E ws' Ls', EnqS kd ws Ls a g E ws' Ls' ∧ Rn kd ws' Ls' (t + 1) := by
  obtain ⟨c, hS⟩ := strT_ex h.fine a
  rcases hS.or with h0 | ⟨b, e, hR⟩
  · exact ⟨_, _, _, _, .kind h0, h.up⟩
  · have h1 := h.setF hR (i := 0) (x := 0) (by omega) inI_0 (.inl (by omega))
    by_cases hx : ws[b + 2]?.getD 0 < 1
    · exact ⟨_, _, _, _, .no b c e hR hx, h1.up⟩
    · have hnb : (b : Int) ∉ Ls.flatten := fun hm => by
        obtain ⟨a', e', _, hq⟩ := h.row _ hm
        obtain rfl : b = a' := by omega
        exact hx hq
      have hR1 := hR.set h.fine.wf (hR.inner h.fine 0 (by omega)) 0
      obtain ⟨E, ws', Ls', hP, hor, _, hlen⟩ := h1.bo.push (by omega) (ws[b + 2]?.getD 0 - 1) (b : Int) hnb
      obtain ⟨hw, hR'⟩ := hP.word h1.fine hR1
      refine ⟨_, _, _, _, .yes b c _ E ws' Ls' e hR rfl (by omega) hP hR', ?_⟩
      have hrows := hP.rows h1.rows
      have hfo : Fine ws' kd [] ∧ (∀ y, List.count y Ls'.flatten ≤ 1) ∧ ∀ y, y ∈ Ls'.flatten → y ∈ Ls.flatten ∨ y = (b : Int) := by
        rcases hor with ⟨_, g⟩ | ⟨_, g⟩
        · exact ⟨g.fine, g.once, fun y hy => by simpa using g.inn y hy⟩
        · exact ⟨g.fine, g.once, fun y hy => .inl (g.inn y hy)⟩
      obtain ⟨g1, g2, g3⟩ := hfo
      have hin := hR'.inner g1 1 (by omega)
      have hl := hin.lt g1
      refine ⟨hin.fine g1 ⟨by omega, by omega⟩, fun y hy => ?_, g2, hrows, by rw [hlen]; exact h.two⟩
      rcases g3 y hy with e2 | e2
      · obtain ⟨a', e', hA, hq⟩ := h1.row y e2
        obtain ⟨ca, hC⟩ := hA.refC
        obtain ⟨hw', hC'⟩ := hP.word h1.fine hC
        refine ⟨a', e', (hC'.set g1.wf hin (-1)).refA, ?_⟩
        by_cases hp : b + 2 = a' + 2
        · rw [← hp, set_get_same _ _ _ hl]; omega
        · rw [set_get_other _ _ _ _ hp, hw']; exact hq
      · exact ⟨b, e2, (hR'.set g1.wf hin (-1)).refA, by rw [set_get_same _ _ _ hl]; omega⟩
/-- Poll, whatever is asked. -/
theorem Rn.poll (h : Rn kd ws Ls t) (j : Int) : ∃ N E ws' Ls', StepO kd ws Ls j N E ws' Ls' ∧ Rn kd ws' Ls' t ∧ inI N := by
  obtain ⟨N, E, ws', Ls', hO, hB, hN, _, hlen⟩ := h.bo.poll j
  refine ⟨N, E, ws', Ls', hO, ⟨hB.fine, fun y hy => ?_, hB.once, fun M hM => ?_, by rw [hlen]; exact h.two⟩, hN⟩
  · have h1 := (List.mem_filter.1 (hB.inn y hy)).1
    obtain ⟨a, e, hA, hq⟩ := h.row y h1
    obtain ⟨ca, hC⟩ := hA.refC
    cases hO with
    | none _ => exact ⟨a, e, hA, hq⟩
    | empty j _ _ => exact ⟨a, e, hA, hq⟩
    | yes j b L _ hL hR =>
      obtain ⟨cb, hBC⟩ := hR.refC
      refine ⟨a, e, hA.set h.fine.wf (hBC.inner h.fine 2 (by omega)) 0, ?_⟩
      rw [set_get_other _ _ _ _ (fun e => by
        have := (hBC.apart hC h.fine (i := 2) (j := 1) (by omega) (by omega) (by omega)).2
        omega)]
      exact hq
  · cases hO with
    | none _ => exact h.rows M hM
    | empty j _ _ => exact h.rows M hM
    | yes j b L _ hL hR =>
      rcases List.mem_or_eq_of_mem_set hM with e | e
      · exact h.rows M e
      · subst e
        have := h.rows _ (List.mem_of_getElem? hL)
        simp at this
        omega
end

end Go.Proofs.YtamcoejlghfleaaGreat

/-
  Objects of numbers made one behind the other, then references: what there is then. Plain facts.
-/
namespace Go.Proofs.YtamcoejlghfleaaGreat
open Go.RowKit

/-- The first n objects of two numbers: words, pages and addresses, one by one. -/
structure DChain (n : Nat) (W : Nat → List Int) (K : Nat → List PK) (A : Nat → Nat) : Prop where
  w0 : W 0 = zeros (64 * 40)
  k0 : K 0 = freshK 40
  step : ∀ i, i < n → MakeT (K i) (W i) [] 3 0 2 false (A i : Int) 0 (W (i + 1)) (K (i + 1))
  fine : ∀ i, i ≤ n → Fine (W i) (K i) [] ∧ (K i).length = 40 ∧ FreeFrom (K i) (1 + i)
  objs : ∀ i, i ≤ n → ∀ j, j < i → ∃ m : Nat, At (K i) (W i) (A j : Nat) (A j) m 3 0 2 false
theorem pages3 : pagesI (2 + 1) ≤ (1 : Nat) := by decide
theorem dchain_ex (n : Nat) (hn : n ≤ 30) : ∃ W K A, DChain n W K A := by
  induction n with
  | zero =>
    refine ⟨fun _ => zeros (64 * 40), fun _ => freshK 40, fun _ => 0, rfl, rfl, fun i h => by omega, fun i h => ⟨Fine.fresh 40 (by omega) (by omega), freshK_length 40, ?_⟩, fun i h j hj => by omega⟩
    exact (FreeFrom.fresh 40 (by omega)).mono (by omega)
  | succ n ih =>
    obtain ⟨W, K, A, hC⟩ := ih (by omega)
    obtain ⟨hf, hk, hfree⟩ := hC.fine n (Nat.le_refl _)
    have hm := may_data 2 (by omega) (by omega)
    obtain ⟨a, b, kd', t1, r1, e1, g1⟩ := make_from (kd := K n) (ds := []) (s := 1 + n) (K := 1) (W n) hf.wf hm (.other (by omega)) pages3 (by omega) (by rw [hk]; omega) hfree
    obtain ⟨f1, l1⟩ := t1.fine hf
    obtain ⟨ws', hws⟩ : ∃ ws', (fill0 (W n) a b).set a (putH 3 0 2 false) = ws' := ⟨_, rfl⟩
    have hat : At kd' ws' (a : Nat) a b 3 0 2 false := by rw [← hws]; exact MakeT.at hf.wf hf.len hm r1 e1
    have hold : ∀ (p m : Nat) (k c l : Int) (f : Bool), At (K n) (W n) (p : Nat) p m k c l f → At kd' ws' (p : Nat) p m k c l f := fun p m k c l f h => by rw [← hws]; exact (h.made hf.wf hf.len r1 e1).1
    rw [hws] at t1 f1
    have hW : ∀ i, i ≤ n → (if i ≤ n then W i else ws') = W i := fun i h => if_pos h
    have hK : ∀ i, i ≤ n → (if i ≤ n then K i else kd') = K i := fun i h => if_pos h
    have hA : ∀ i, i < n → (if i < n then A i else a) = A i := fun i h => if_pos h
    refine ⟨fun i => if i ≤ n then W i else ws', fun i => if i ≤ n then K i else kd', fun i => if i < n then A i else a, hC.w0, hC.k0, ?_, ?_, ?_⟩
    · intro i hi
      show MakeT (if i ≤ n then K i else kd') (if i ≤ n then W i else ws') [] 3 0 2 false ((if i < n then A i else a : Nat) : Int) 0 (if i + 1 ≤ n then W (i + 1) else ws') (if i + 1 ≤ n then K (i + 1) else kd')
      rcases Nat.lt_or_ge i n with h | h
      · rw [hW i (by omega), hK i (by omega), hA i h, hW (i + 1) (by omega), hK (i + 1) (by omega)]
        exact hC.step i h
      · obtain rfl : i = n := by omega
        rw [hW i (by omega), hK i (by omega), if_neg (by omega), if_neg (by omega), if_neg (by omega)]
        exact t1
    · intro i hi
      show Fine (if i ≤ n then W i else ws') (if i ≤ n then K i else kd') [] ∧ (if i ≤ n then K i else kd').length = 40 ∧ FreeFrom (if i ≤ n then K i else kd') (1 + i)
      rcases Nat.lt_or_ge n i with h | h
      · obtain rfl : i = n + 1 := by omega
        rw [if_neg (by omega), if_neg (by omega)]
        exact ⟨f1, by rw [l1, hk], g1.mono (by omega)⟩
      · rw [hW i h, hK i h]
        exact hC.fine i h
    · intro i hi j hj
      show ∃ m : Nat, At (if i ≤ n then K i else kd') (if i ≤ n then W i else ws') ((if j < n then A j else a : Nat) : Int) (if j < n then A j else a) m 3 0 2 false
      rcases Nat.lt_or_ge n i with h | h
      · obtain rfl : i = n + 1 := by omega
        rw [if_neg (by omega), if_neg (by omega)]
        rcases Nat.lt_or_ge j n with hjn | hjn
        · rw [hA j hjn]
          obtain ⟨m, hm⟩ := hC.objs n (Nat.le_refl _) j hjn
          exact ⟨m, hold _ _ _ _ _ _ hm⟩
        · rw [if_neg (by omega)]
          exact ⟨b, hat⟩
      · rw [hW i h, hK i h, hA j (by omega)]
        exact hC.objs i h j hj
theorem DChain.bd {n : Nat} {W : Nat → List Int} {K : Nat → List PK} {A : Nat → Nat} (h : DChain n W K A) (j : Nat) (hj : j < n) : 64 ≤ A j ∧ A j ≤ 2560 := by
  obtain ⟨m, hm⟩ := h.objs n (Nat.le_refl _) j hj
  obtain ⟨hf, hk, _⟩ := h.fine n (Nat.le_refl _)
  have := hm.facts hf.wf
  omega
theorem DChain.aBd {n : Nat} {W : Nat → List Int} {K : Nat → List PK} {A : Nat → Nat} (h : DChain n W K A) (q : Nat) (hq : q ≤ n) : ∀ i : Nat, -9223372036854775808 ≤ (aL A q)[i]?.getD 0 ∧ (aL A q)[i]?.getD 0 ≤ 9223372036854775807 := by
  intro i
  by_cases hi : i < q
  · rw [aL_get A q i hi]; have := h.bd i (by omega); omega
  · rw [List.getElem?_eq_none (by rw [aL_length]; omega)]; simp

/-- A reference, and its five fields. -/
structure RF (kd : List PK) (ws : List Int) (b : Nat) (c r q nx s t : Int) : Prop where
  ref : RefC kd ws b c
  f0 : ws[b + 1]?.getD 0 = r
  f1 : ws[b + 2]?.getD 0 = q
  f2 : ws[b + 3]?.getD 0 = nx
  f3 : ws[b + 4]?.getD 0 = s
  f4 : ws[b + 5]?.getD 0 = t
section
variable {kd kd' : List PK} {ws ws' : List Int} {b b' i : Nat} {c c' r q nx s t x : Int}
theorem RF.other (h : RF kd ws b c r q nx s t) (hf : Fine ws kd []) (h' : RefC kd ws b' c') (hne : b ≠ b') (hi : i < 5) (x : Int) : RF kd (ws.set (b' + 1 + i) x) b c r q nx s t := by
  have key : ∀ j, j < 5 → (ws.set (b' + 1 + i) x)[b + 1 + j]?.getD 0 = ws[b + 1 + j]?.getD 0 := fun j hj => set_get_other _ _ _ _ (fun e => hne ((h'.apart h.ref hf hi hj e).1).symm)
  exact ⟨h.ref.set hf.wf (h'.inner hf i hi) x, (key 0 (by omega)).trans h.f0, (key 1 (by omega)).trans h.f1, (key 2 (by omega)).trans h.f2, (key 3 (by omega)).trans h.f3, (key 4 (by omega)).trans h.f4⟩
theorem RF.set0 (h : RF kd ws b c r q nx s t) (hf : Fine ws kd []) (x : Int) : RF kd (ws.set (b + 1) x) b c x q nx s t := by
  have hi := h.ref.inner hf 0 (by omega)
  have := hi.lt hf
  refine ⟨h.ref.set hf.wf hi x, set_get_same _ _ _ this, ?_, ?_, ?_, ?_⟩
  · rw [set_get_other _ _ _ _ (by omega)]; exact h.f1
  · rw [set_get_other _ _ _ _ (by omega)]; exact h.f2
  · rw [set_get_other _ _ _ _ (by omega)]; exact h.f3
  · rw [set_get_other _ _ _ _ (by omega)]; exact h.f4
theorem RF.set1 (h : RF kd ws b c r q nx s t) (hf : Fine ws kd []) (x : Int) : RF kd (ws.set (b + 2) x) b c r x nx s t := by
  have hi := h.ref.inner hf 1 (by omega)
  have := hi.lt hf
  refine ⟨h.ref.set hf.wf hi x, ?_, set_get_same _ _ _ this, ?_, ?_, ?_⟩
  · rw [set_get_other _ _ _ _ (by omega)]; exact h.f0
  · rw [set_get_other _ _ _ _ (by omega)]; exact h.f2
  · rw [set_get_other _ _ _ _ (by omega)]; exact h.f3
  · rw [set_get_other _ _ _ _ (by omega)]; exact h.f4
theorem RF.set2 (h : RF kd ws b c r q nx s t) (hf : Fine ws kd []) (x : Int) : RF kd (ws.set (b + 3) x) b c r q x s t := by
  have hi := h.ref.inner hf 2 (by omega)
  have := hi.lt hf
  refine ⟨h.ref.set hf.wf hi x, ?_, ?_, set_get_same _ _ _ this, ?_, ?_⟩
  · rw [set_get_other _ _ _ _ (by omega)]; exact h.f0
  · rw [set_get_other _ _ _ _ (by omega)]; exact h.f1
  · rw [set_get_other _ _ _ _ (by omega)]; exact h.f3
  · rw [set_get_other _ _ _ _ (by omega)]; exact h.f4
theorem RF.set3 (h : RF kd ws b c r q nx s t) (hf : Fine ws kd []) (x : Int) : RF kd (ws.set (b + 4) x) b c r q nx x t := by
  have hi := h.ref.inner hf 3 (by omega)
  have := hi.lt hf
  refine ⟨h.ref.set hf.wf hi x, ?_, ?_, ?_, set_get_same _ _ _ this, ?_⟩
  · rw [set_get_other _ _ _ _ (by omega)]; exact h.f0
  · rw [set_get_other _ _ _ _ (by omega)]; exact h.f1
  · rw [set_get_other _ _ _ _ (by omega)]; exact h.f2
  · rw [set_get_other _ _ _ _ (by omega)]; exact h.f4
theorem RF.set4 (h : RF kd ws b c r q nx s t) (hf : Fine ws kd []) (x : Int) : RF kd (ws.set (b + 5) x) b c r q nx s x := by
  have hi := h.ref.inner hf 4 (by omega)
  have := hi.lt hf
  refine ⟨h.ref.set hf.wf hi x, ?_, ?_, ?_, ?_, set_get_same _ _ _ this⟩
  · rw [set_get_other _ _ _ _ (by omega)]; exact h.f0
  · rw [set_get_other _ _ _ _ (by omega)]; exact h.f1
  · rw [set_get_other _ _ _ _ (by omega)]; exact h.f2
  · rw [set_get_other _ _ _ _ (by omega)]; exact h.f3
theorem RF.field (h : RF kd ws b c r q nx s t) (hf : Fine ws kd []) : FieldT kd ws b 0 r 0 ∧ FieldT kd ws b 1 q 0 ∧ FieldT kd ws b 2 nx 0 ∧ FieldT kd ws b 3 s 0 ∧ FieldT kd ws b 4 t 0 := by
  have h0 := h.ref.field hf 0 (by omega)
  have h1 := h.ref.field hf 1 (by omega)
  have h2 := h.ref.field hf 2 (by omega)
  have h3 := h.ref.field hf 3 (by omega)
  have h4 := h.ref.field hf 4 (by omega)
  rw [show b + 1 + 0 = b + 1 from rfl, h.f0] at h0
  rw [show b + 1 + 1 = b + 2 from rfl, h.f1] at h1
  rw [show b + 1 + 2 = b + 3 from rfl, h.f2] at h2
  rw [show b + 1 + 3 = b + 4 from rfl, h.f3] at h3
  rw [show b + 1 + 4 = b + 5 from rfl, h.f4] at h4
  exact ⟨h0, h1, h2, h3, h4⟩
end

/-- So many objects, and references with what they were made of. -/
structure ST (kd : List PK) (ws : List Int) (u : Nat) (D L : List Int) (cl r q : Nat → Int) : Prop where
  fine : Fine ws kd []
  len : kd.length = 40
  free : FreeFrom kd (1 + u)
  data : ∀ j, j < D.length → ∃ (d m : Nat), D[j]?.getD 0 = d ∧ At kd ws d d m 3 0 2 false
  refs : ∀ j, j < L.length → ∃ (b : Nat) (nx s t : Int), L[j]?.getD 0 = b ∧ RF kd ws b (cl j) (r j) (q j) nx s t
  ne : ∀ i j, i < L.length → j < L.length → L[i]?.getD 0 = L[j]?.getD 0 → i = j
theorem DChain.st {n : Nat} {W : Nat → List Int} {K : Nat → List PK} {A : Nat → Nat} (h : DChain n W K A) (cl r q : Nat → Int) : ST (K n) (W n) n (aL A n) [] cl r q := by
  obtain ⟨h1, h2, h3⟩ := h.fine n (Nat.le_refl _)
  refine ⟨h1, h2, h3, fun j hj => ?_, fun j hj => by simp at hj, fun i j hi => by simp at hi⟩
  rw [aL_length] at hj
  obtain ⟨m, hm⟩ := h.objs n (Nat.le_refl _) j hj
  exact ⟨A j, m, aL_get A n j hj, hm⟩
section
variable {kd : List PK} {ws D L : List Int} {u : Nat} {cl r q : Nat → Int}
theorem ST.objs (h : ST kd ws u D L cl r q) (j : Nat) (hj : j < D.length) : ∃ (d m : Nat) (k c l : Int) (f : Bool), D[j]?.getD 0 = d ∧ At kd ws d d m k c l f := by
  obtain ⟨d, m, e, hA⟩ := h.data j hj
  exact ⟨d, m, 3, 0, 2, false, e, hA⟩
theorem ST.at' (h : ST kd ws u D L cl r q) {j b : Nat} (hj : j < L.length) (hb : L[j]?.getD 0 = (b : Int)) : ∃ nx s t, RF kd ws b (cl j) (r j) (q j) nx s t := by
  obtain ⟨b', nx, s, t, e, hR⟩ := h.refs j hj
  obtain rfl : b = b' := by omega
  exact ⟨nx, s, t, hR⟩
/-- A field of one is put. -/
theorem ST.put (h : ST kd ws u D L cl r q) {i j b : Nat} {x : Int} (hj : j < L.length) (hb : L[j]?.getD 0 = (b : Int)) (hi : i < 4) (hx : inI x) {r' q' : Nat → Int}
    (hr : ∀ k, k < L.length → r' k = if k = j ∧ i = 0 then x else r k) (hq : ∀ k, k < L.length → q' k = if k = j ∧ i = 1 then x else q k) : ST kd (ws.set (b + 1 + i) x) u D L cl r' q' := by
  obtain ⟨nx, s, t, hR⟩ := h.at' hj hb
  have hin := hR.ref.inner h.fine i (by omega)
  refine ⟨hin.fine h.fine hx, h.len, h.free, fun d hd => ?_, fun k hk => ?_, h.ne⟩
  · obtain ⟨d, m, e, hA⟩ := h.data d hd
    exact ⟨d, m, e, (hin.at' h.fine.wf).2 hA⟩
  · rw [hr k hk, hq k hk]
    by_cases e : k = j
    · subst e
      rcases (show i = 0 ∨ i = 1 ∨ i = 2 ∨ i = 3 by omega) with rfl | rfl | rfl | rfl
      · rw [if_pos ⟨rfl, rfl⟩, if_neg (by omega)]
        exact ⟨b, _, _, _, hb, hR.set0 h.fine x⟩
      · rw [if_neg (by omega), if_pos ⟨rfl, rfl⟩]
        exact ⟨b, _, _, _, hb, hR.set1 h.fine x⟩
      · rw [if_neg (by omega), if_neg (by omega)]
        exact ⟨b, _, _, _, hb, hR.set2 h.fine x⟩
      · rw [if_neg (by omega), if_neg (by omega)]
        exact ⟨b, _, _, _, hb, hR.set3 h.fine x⟩
    · rw [if_neg (fun g => e g.1), if_neg (fun g => e g.1)]
      obtain ⟨b2, nx2, s2, t2, e2, hR2⟩ := h.refs k hk
      exact ⟨b2, nx2, s2, t2, e2, hR2.other h.fine hR.ref (fun g => e (h.ne k j hk hj (by rw [e2, hb, g]))) (by omega) x⟩
theorem snoc_at13 (L : List Int) (x : Int) (j : Nat) : (L ++ [x])[j]?.getD 0 = if j < L.length then L[j]?.getD 0 else if j = L.length then x else 0 := by
  rcases Nat.lt_trichotomy j L.length with h | h | h
  · rw [if_pos h, List.getElem?_append_left h]
  · subst h; rw [if_neg (by omega), if_pos rfl]; simp
  · rw [if_neg (by omega), if_neg (by omega), List.getElem?_eq_none (by simp; omega)]; rfl
/-- One more is made. -/
theorem ST.refer (h : ST kd ws u D L cl r q) (hu : u ≤ 37) {n : Nat} {S s a qq t : Int} (h1 : 1 ≤ s) (h2 : s ≤ 3) (h3 : -1 ≤ qq) (h4 : qq < n) (h5 : ¬ (s = 3 ∧ qq = -1)) (ha : ∃ (d m : Nat) (k c l : Int) (f : Bool), a = d ∧ At kd ws d d m k c l f) (hn : n ≤ 8) (ht : inI t) (hS : inI (S + 1))
    (e1 : cl L.length = s) (e2 : r L.length = a) (e3 : q L.length = qq + 1) : ∃ (b : Nat) (ws' : List Int) (kd' : List PK), ReferT kd ws [] n S s a qq t b 0 ws' kd' (S + 1) ∧ ST kd' ws' (u + 1) D (L ++ [(b : Int)]) cl r q ∧ RF kd' ws' b s a (qq + 1) 0 t (S + 1) ∧ (∀ (b2 : Nat) (c2 r2 q2 nx s2 t2 : Int), RF kd ws b2 c2 r2 q2 nx s2 t2 → RF kd' ws' b2 c2 r2 q2 nx s2 t2) ∧ 64 ≤ b ∧ b ≤ 2560 := by
  obtain ⟨d, dm, k, c, l, f, ea, hA⟩ := ha
  have haI : inI a := by
    have := hA.facts h.fine.wf
    exact ⟨by omega, by omega⟩
  have hM : MayT kd ws n s a qq 0 := .head k c l 0 f h1 h2 h3 h4 h5 (by rw [ea]; exact .yes d dm k c l f hA)
  have hm := mayH_ref h1 h2
  obtain ⟨b, bm, kd', hMk, hr, hb, hfr⟩ := make_from (kd := kd) (ds := []) (s := 1 + u) (K := 1) ws h.fine.wf hm (.other (by omega)) pages6 (by omega) (by rw [h.len]; omega) h.free
  obtain ⟨ws1, hws1⟩ : ∃ ws1, (fill0 ws b bm).set b (putH 4 s 5 false) = ws1 := ⟨_, rfl⟩
  rw [hws1] at hMk
  obtain ⟨hR, hf1, hl1, hold, hnew⟩ := hMk.ref h.fine
  have hqI : inI (qq + 1) := ⟨by omega, by omega⟩
  obtain ⟨_, _, _, _, hf5, hR5⟩ := hR.madeW hf1 haI hqI ht hS
  have hbd : 64 ≤ b ∧ b ≤ 2560 := by
    obtain ⟨m, hm'⟩ := hR5
    have := hm'.facts hf5.wf
    rw [hl1, h.len] at this
    omega
  have key : ∀ p, (∀ i, i < 5 → b + 1 + i ≠ p) → (madeW ws1 b a qq t (S + 1))[p]?.getD 0 = ws1[p]?.getD 0 := by
    intro p hp
    have q0 := hp 0 (by omega)
    have q1 := hp 1 (by omega)
    have q3 := hp 3 (by omega)
    have q4 := hp 4 (by omega)
    unfold madeW
    rw [set_get_other _ _ _ _ (by omega), set_get_other _ _ _ _ (by omega), set_get_other _ _ _ _ (by omega), set_get_other _ _ _ _ (by omega)]
  have hAt : ∀ (p m : Nat) (k c l : Int) (f : Bool), At kd ws p p m k c l f → At kd' (madeW ws1 b a qq t (S + 1)) p p m k c l f := by
    intro p m k c l f hp
    have g1 := (hold p m k c l f hp).1
    unfold madeW
    exact ((hR.inner hf1 4 (by omega)).at' hf1.wf).2 (((hR.inner hf1 3 (by omega)).at' hf1.wf).2 (((hR.inner hf1 1 (by omega)).at' hf1.wf).2 (((hR.inner hf1 0 (by omega)).at' hf1.wf).2 g1)))
  have hnew' : RF kd' (madeW ws1 b a qq t (S + 1)) b s a (qq + 1) 0 t (S + 1) := by
    have r0 : RF kd' ws1 b s 0 0 0 0 0 := ⟨hR, hnew 0 (by omega), hnew 1 (by omega), hnew 2 (by omega), hnew 3 (by omega), hnew 4 (by omega)⟩
    have p0 := hR.inner hf1 0 (by omega)
    have p1 := hR.inner hf1 1 (by omega)
    have p3 := hR.inner hf1 3 (by omega)
    have f1 := p0.fine hf1 haI
    have f2 := p1.fine f1 hqI
    have f3 := p3.fine f2 ht
    exact (((r0.set0 hf1 a).set1 f1 (qq + 1)).set3 f2 t).set4 f3 (S + 1)
  have hkeep : ∀ (b2 : Nat) (c2 r2 q2 nx s2 t2 : Int), RF kd ws b2 c2 r2 q2 nx s2 t2 → RF kd' (madeW ws1 b a qq t (S + 1)) b2 c2 r2 q2 nx s2 t2 ∧ b2 ≠ b := by
    intro b2 c2 r2 q2 nx s2 t2 hR2
    obtain ⟨m2, hA2⟩ := hR2.ref
    obtain ⟨g1, g2, g3⟩ := hold b2 m2 _ _ _ _ hA2
    have hrm := at_room h.fine hA2
    have hw : ∀ i, i < 5 → (madeW ws1 b a qq t (S + 1))[b2 + 1 + i]?.getD 0 = ws[b2 + 1 + i]?.getD 0 := by
      intro i hi
      rw [key _ (fun i' hi' => by omega), Nat.add_assoc, g3 (1 + i) (by omega)]
    exact ⟨⟨⟨m2, hAt _ _ _ _ _ _ hA2⟩, (hw 0 (by omega)).trans hR2.f0, (hw 1 (by omega)).trans hR2.f1, (hw 2 (by omega)).trans hR2.f2, (hw 3 (by omega)).trans hR2.f3, (hw 4 (by omega)).trans hR2.f4⟩, by omega⟩
  have hoff : ∀ j, j < L.length → ∃ (b2 : Nat) (nx s' t' : Int), L[j]?.getD 0 = b2 ∧ RF kd' (madeW ws1 b a qq t (S + 1)) b2 (cl j) (r j) (q j) nx s' t' ∧ b2 ≠ b := by
    intro j hj
    obtain ⟨b2, nx, s', t', e, hR2⟩ := h.refs j hj
    exact ⟨b2, nx, s', t', e, hkeep _ _ _ _ _ _ _ hR2⟩
  refine ⟨b, _, kd', .yes b ws1 kd' hM hMk hR, ⟨hf5, by rw [hl1, h.len], hfr.mono (by omega), fun j hj => ?_, fun j hj => ?_, fun i j hi hj e => ?_⟩, hnew', fun b2 c2 r2 q2 nx s2 t2 h => (hkeep b2 c2 r2 q2 nx s2 t2 h).1, hbd⟩
  · obtain ⟨d, m, e, hA⟩ := h.data j hj
    exact ⟨d, m, e, hAt _ _ _ _ _ _ hA⟩
  · rw [snoc_at13]
    rw [List.length_append, List.length_singleton] at hj
    by_cases hjl : j < L.length
    · rw [if_pos hjl]
      obtain ⟨b2, nx, s', t', e, hR2, _⟩ := hoff j hjl
      exact ⟨b2, nx, s', t', e, hR2⟩
    · obtain rfl : j = L.length := by omega
      rw [if_neg (by omega), if_pos rfl, e1, e2, e3]
      exact ⟨b, _, _, _, rfl, hnew'⟩
  · rw [List.length_append, List.length_singleton] at hi hj
    rw [snoc_at13, snoc_at13] at e
    by_cases hil : i < L.length
    · by_cases hjl : j < L.length
      · rw [if_pos hil, if_pos hjl] at e
        exact h.ne i j hil hjl e
      · rw [if_pos hil, if_neg hjl, if_pos (by omega)] at e
        obtain ⟨b2, _, _, _, e2', _, hne⟩ := hoff i hil
        omega
    · by_cases hjl : j < L.length
      · rw [if_neg hil, if_pos (by omega), if_pos hjl] at e
        obtain ⟨b2, _, _, _, e2', _, hne⟩ := hoff j hjl
        omega
      · omega
end

end Go.Proofs.YtamcoejlghfleaaGreat

/-
  A list of integers that grows, as a part of memory beside others.
-/
namespace Go.Proofs.YtamcoejlghfleaaGreat
open Go.RowKit

def ownA (t : TypeId) (la : Option Addr) (q c : Nat) (L : List Int) : Asn where
  at' w F := F = la.toList.map (·.block) ∧ w.ownsRow 0 t 1 (.slice la q c) q (ints L) ∧ ∀ a, la = some a → a.block < w.heap.size
  keep := fun h K hS => ⟨h.1, own_keepS h.2.1 K (fun y e => hS _ (by rw [h.1, e]; simp)), fun a e => Nat.lt_of_lt_of_le (h.2.2 a e) K.size⟩
  lt := fun h k hk => by
    rw [h.1] at hk
    simp at hk
    obtain ⟨a, e, rfl⟩ := hk
    exact h.2.2 a e
theorem Has.own {w0 w : World} {F0 : List Nat} {t : TypeId} {la : Option Addr} {q c : Nat} {L : List Int} (h : Has w0 F0 (ownA t la q c L) w) : w.ownsRow 0 t 1 (.slice la q c) q (ints L) := h.fact (fun _ h => h.2.1)
theorem Has.ownNew {w0 w : World} {F0 : List Nat} {A : Asn} (t : TypeId) (h : Has w0 F0 A w) : Has w0 F0 (A.star (ownA t none 0 0 [])) w :=
  h.more (Keep.refl _ _) (G := []) ⟨rfl, World.ownsRow_nil _ _ _ _, by simp⟩ (by simp)
theorem Has.ownMore {w0 w w' : World} {F0 : List Nat} {A : Asn} {t : TypeId} {la : Option Addr} {q c q' c' g H : Nat} {L L' : List Int} (h : Has w0 F0 (A.star (ownA t la q c L)) w) (ho : w'.ownsRow 0 t 1 (.slice (some ⟨g, 0, none⟩) q' c') q' (ints L')) (hg : w.grownBy w' (Value.slice la q c).ownBlock)
    (hb : (Value.slice la q c).ownBlock = some g ∨ g = H) (hH : w.heap.size = H) (hlt : g < w'.heap.size) : Has w0 F0 (A.star (ownA t (some ⟨g, 0, none⟩) q' c' L')) w' := by
  refine (Has.left h.comm (A' := ownA t (some ⟨g, 0, none⟩) q' c' L') (fun F hF => ⟨[g], ⟨rfl, ho, fun a e => by cases e; exact hlt⟩, ?_, fun k hk => ?_⟩)).comm
  · rw [hF.1]; exact grown_keep hg
  · simp at hk
    subst hk
    rcases hb with hb | hb
    · left
      rw [hF.1]
      cases la with
      | none => simp [Value.ownBlock] at hb
      | some z => simp [Value.ownBlock] at hb; simp [hb]
    · right; omega

end Go.Proofs.YtamcoejlghfleaaGreat

/-
  Whole and awake of gloaminglaw9.
-/
namespace Go.Proofs.YtamcoejlghfleaaGreat
open Go.RowKit

section
variable {w0 : World} {F0 : List Nat} {hb : Nat} {ws : List Int} {kd : List PK} {ds : List (Int × List Int)}
set_option maxRecDepth 100000 in
set_option maxHeartbeats 1600000 in
theorem owhole (w : World) (h : Has w0 F0 (heapA hb ws kd ds) w) :
    Calls Tryz.prog 25 #[.pointer (some ⟨hb, 0, none⟩)] w fun e w' => e = .returned (.bool true) ∧ w = w' := by
  obtain ⟨sb, tb, hr⟩ := h.raw
  obtain ⟨c0, c1, ⟨ab, ag, c2, _⟩, ⟨pb, c3⟩, _⟩ := hr.cells
  clear h hr
  go_enter Tryz.func25, Tryz.ntmps25
  go_wp2_with fail
  go_ret
  exact ⟨rfl, rfl⟩
end

theorem Fine.add {ws : List Int} {kd : List PK} {ds : List (Int × List Int)} (h : Fine ws kd ds) (f : Int) (L : List Int) : Fine ws kd (addR ds f L) := by
  unfold addR
  split
  · rename_i e
    simp at e
    exact ⟨h.wf, h.ob.add _, by simp; omega, h.len⟩
  · exact h

section
variable {w0 : World} {F0 : List Nat} {hb : Nat} {ws : List Int} {kd : List PK} {ds : List (Int × List Int)}
theorem Has.ptrs {w : World} (h : Has w0 F0 (heapA hb ws kd ds) w) : ∃ sb tb, w.cell? ⟨hb, 0, none⟩ = some (.pointer (some ⟨sb, 0, none⟩)) ∧ w.cell? ⟨hb, 1, none⟩ = some (.pointer (some ⟨tb, 0, none⟩)) := by
  obtain ⟨sb, tb, hr⟩ := h.raw
  exact ⟨sb, tb, hr.cells.1, hr.cells.2.1⟩
theorem ptr_eq {a b : Nat} (e : some (Value.pointer (some ⟨a, 0, none⟩)) = some (.pointer (some ⟨b, 0, none⟩))) : a = b := by
  injection e with e; injection e with e; injection e with e; injection e
theorem ofind (sb : Nat) (a : Int) (w : World) (h : Has w0 F0 (heapA hb ws kd ds) w) (ht : w.cell? ⟨hb, 0, none⟩ = some (.pointer (some ⟨sb, 0, none⟩))) :
    Calls Tryz.prog 92 #[.pointer (some ⟨sb, 0, none⟩), .int .i64 a] w fun e w' => e = .returned (foundV (findI kd a)) ∧ Keep [] w w' := by
  obtain ⟨sb', tb, hr⟩ := h.raw
  have e := hr.cells.1
  rw [ht] at e
  obtain rfl := ptr_eq e
  exact xfind w a hr h.fine.wf
end

theorem awake_each : (eachK ((freshK 2).set 1 (.small 0 ((offs (roomOf 0)).set 0 true)))).length = 1 := by decide +kernel
theorem block2 : blockI 2 = (2 : Nat) := by decide
end Go.Proofs.YtamcoejlghfleaaGreat

/-
  Made and awake of gloaminglaw13: references over a heap with some objects of numbers, and queues.
-/
namespace Go.Proofs.YtamcoejlghfleaaGreat
open Go.RowKit

theorem Tryz.infoInt13 : (Tryz.prog.info? 3).map (fun i => (i.zero, i.size, i.bytes)) = some (some (.int .i64 0), 1, 8) := by kernel_rfl

set_option maxRecDepth 100000 in
set_option maxHeartbeats 6400000 in
theorem made13 (n N k : Nat) {W : Nat → List Int} {K : Nat → List PK} {A : Nat → Nat} (hC : DChain N W K A) (hn : n ≤ N) (hN : N ≤ 30) (hk : k ≤ 8) (w : World) :
    Calls Tryz.prog 4 #[.int .i64 n, .int .i64 k] w fun e w' => ∃ hb pb qb la lc, e = .returned (.tuple #[.pointer (some ⟨hb, 0, none⟩), .pointer (some ⟨pb, 0, none⟩), .slice la n lc]) ∧ Has w [] ((prefA pb qb hb 0 (W n) (K n) [] (nQ k)).star (listA la (aL A n))) w' := by
  obtain ⟨i0, hi, hz0, hz1, hz2⟩ := info_parts Tryz.infoInt13
  have hI : Hid (Tryz.prog.info? 3 = some i0 ∧ i0.zero = some (.int .i64 0) ∧ i0.size = 1 ∧ i0.bytes = 8) := ⟨hi, hz0, hz1, hz2⟩
  clear hi hz0 hz1 hz2
  have HC := hid hC
  clear hC
  go_enter Tryz.func4, Tryz.ntmps4
  go_wp2_with fail
  refine (onew_has 40 _ (by omega) (by omega)).mono ?_
  rintro e w1 ⟨hb, rfl, hH⟩
  have HH := (show Hid (Has w [] (heapA hb (zeros (64 * 40)) (freshK 40) []) w1) from hH)
  clear hH
  go_wp2_with (first | (go_at_call 25; refine (owhole _ HH.out).mono ?_; rintro e w' ⟨rfl, rfl⟩) | (go_at_call 8; refine (err_any _ _).mono ?_; rintro e w' ⟨rfl, rfl⟩))
  refine (pnew _ HH.out).mono ?_
  rintro e w2 ⟨pb, qb, rfl, hP⟩
  have HX0 := (show Hid (Has w [] ((prefA pb qb hb 0 (W 0) (K 0) [] (nQ 0)).star (ownA 3 none 0 0 (aL A 0))) w2) from by
    show Has _ _ _ _
    rw [HC.out.w0, HC.out.k0]
    exact Has.ownNew 3 hP)
  obtain ⟨c0, _, _, _⟩ := hP.pcells
  clear HH hP
  go_wp2_with fail
  clear c0
  go_loopw [10, 11] (fun l i wr => ∃ (j : Nat) (la : Option Addr) (lc : Nat), l = .slice la j lc ∧ i = .int .i64 j ∧ j ≤ n ∧ Hid (Has w [] ((prefA pb qb hb 0 (W j) (K j) [] (nQ 0)).star (ownA 3 la j lc (aL A j))) wr)) (fun _ i _ => n - (intOf i).toNat)
  case atStart => exact ⟨0, none, 0, rfl, rfl, by omega, HX0⟩
  case round =>
    obtain ⟨j, la, lc, rfl, rfl, hj, HX⟩ := hrel
    obtain ⟨w3, rfl⟩ : ∃ w3, w3 = wr := ⟨_, rfl⟩
    clear HX0
    by_cases hlt : j < n
    · have hd : decide (j < n) = true := decide_eq_true hlt
      have HT := hid (HC.out.step j (by omega))
      obtain ⟨a, ha⟩ : ∃ a, A j = a := ⟨_, rfl⟩
      have hab := HC.out.bd j (by omega)
      rw [ha] at HT hab
      have HL := (show Hid (aL A (j + 1) = aL A j ++ [(a : Int)]) from by show _ = _; rw [aL_snoc, ha])
      clear ha
      go_wp2_with (first | (go_at_call 27; refine (has_left HX.out (fun F hF => has_pheap hF (fun F hF => omake 3 0 2 a 0 false _ _ _ hF HT.out))).mono ?_; rintro e w4 ⟨rfl, hX3⟩; have HX3 := hid hX3; clear hX3) | (go_at_call 8; refine (err_any _ _).mono ?_; rintro e w' ⟨rfl, rfl⟩) | (at_builtin; refine wpList_append_lies _ rfl (.tmp 52) (.tmp 54) 23 rfl 0 3 i0 (.int .i64 0) 1 8 Tryz.underlying23 hI.out.1 hI.out.2.1 hI.out.2.2.1 hI.out.2.2.2 rfl (by decide) _ j (ints (aL A j)) rfl (HX3.out.snd.own.alloc _) ⟨w4.heap.size, 0, none⟩ 1 1 (ints [(a : Int)]) rfl rfl (one_cell _ _ _) (ints_one _) (by omega) (by unfold maxLen; omega) (by omega) (by omega) (w4.heap.size + 1) (by simp) ?_; intro ga ca7 w7 hown7 hgrow7 hblk7 hlt7; rw [ints_app] at hown7; have HX7 := (show Hid (Has w [] ((prefA pb qb hb 0 (W (j + 1)) (K (j + 1)) [] (nQ 0)).star (ownA 3 (some ⟨ga, 0, none⟩) (j + 1) ca7 (aL A (j + 1)))) w7) from by show Has _ _ _ _; rw [HL.out]; exact (HX3.out.keep0 (Keep.alloc [] _ _)).ownMore hown7 hgrow7 hblk7 (by simp) hlt7); clear hown7 hgrow7 hblk7 hlt7))
      go_roundw
      case rel => exact ⟨j + 1, some ⟨ga, 0, none⟩, ca7, by rfl, by go_num, by omega, HX7⟩
      case measure => simp [intOf]; omega
    · obtain rfl : j = n := by omega
      have HX1 := (show Hid (Has w [] ((prefA pb qb hb 0 (W j) (K j) [] (nQ 0)).star (listA la (aL A j))) w3) from (HX.out.comm.map (fun F g => by
        obtain ⟨F1, F2, hF, h1, h2, hd⟩ := g
        exact ⟨F1, F2, hF, ⟨h1.1, (own_at h1.2.1 (HC.out.aBd j hn)).1, h1.2.2⟩, h2, hd⟩)).comm)
      clear HX hlt
      go_wp2_with fail
      go_loopw [14] (fun i wr => ∃ t : Nat, i = .int .i64 t ∧ t ≤ k ∧ Hid (Has w [] ((prefA pb qb hb 0 (W j) (K j) [] (nQ t)).star (listA la (aL A j))) wr)) (fun i _ => k - (intOf i).toNat)
      case atStart => exact ⟨0, rfl, by omega, HX1⟩
      case round =>
        obtain ⟨t, rfl, ht, HX⟩ := hrel
        obtain ⟨w5, rfl⟩ : ∃ w5, w5 = wr := ⟨_, rfl⟩
        clear HX1
        by_cases hlt : t < k
        · have hd : decide (t < k) = true := decide_eq_true hlt
          obtain ⟨c0, _, _, _⟩ := HX.out.fst.pcells
          go_wp2_with fail
          refine (has_left HX.out (fun F hF => has_pqueue hF (fun F hF => qopen_yes _ hF (by rw [nQ_length]; omega)))).mono ?_
          rintro e w6 ⟨rfl, hX6⟩
          rw [nQ_more] at hX6
          go_wp2_with fail
          go_roundw
          case rel => exact ⟨t + 1, by go_num, by omega, hX6⟩
          case measure => simp [intOf]; omega
        · obtain rfl : t = k := by omega
          go_wp2_with fail
          go_ret3
          exact ⟨hb, pb, qb, la, lc, rfl, HX.out⟩

set_option maxRecDepth 100000 in
set_option maxHeartbeats 3200000 in
theorem awake13_any (w : World) :
    Calls Tryz.prog 23 #[] w fun e w' => e = .returned (.bool true) ∧ Keep [] w w' := by
  obtain ⟨W, K, A, hC⟩ := dchain_ex 1 (by omega)
  have HC := hid hC
  have hst := hC.st (fun _ => 3) (fun _ => (A 0 : Int)) (fun _ => 1)
  have hd0 := hst.objs 0 (by rw [aL_length]; omega)
  rw [aL_get A 1 0 (by omega)] at hd0
  obtain ⟨b, ws, kd, hT, hst2, hR, _, hb1, hb2⟩ := hst.refer (n := 1) (S := 0) (s := 3) (a := (A 0 : Int)) (qq := 0) (t := 5) (by omega) (by omega) (by omega) (by omega) (by omega) (by omega) hd0 (by omega) ⟨by omega, by omega⟩ ⟨by omega, by omega⟩ rfl rfl rfl
  have HT := hid hT
  have HRD := (show Hid (ReadT kd ws (b : Int) 9 0 0 ws) from .ph b rfl hR.ref)
  obtain ⟨a0, ha0⟩ : ∃ a, A 0 = a := ⟨_, rfl⟩
  have hab := hC.bd 0 (by omega)
  rw [ha0] at HT hab
  have HA0 := hid ha0
  clear hC hst hd0 hT hst2 hR ha0
  go_enter Tryz.func23, Tryz.ntmps23
  go_wp2_with fail
  refine (made13 1 1 1 HC.out (by omega) (by omega) (by omega) _).mono ?_
  rintro e w1 ⟨hb, pb, qb, la, lc, rfl, hX⟩
  have HX := hid hX
  clear hX
  obtain ⟨lb, lo, rfl, _, hcs⟩ := HX.out.snd.list.cells (by rw [aL_length]; omega)
  have hc0 := hcs 0 (by rw [aL_length]; omega)
  rw [aL_get A 1 0 (by omega), HA0.out, Nat.add_zero] at hc0
  clear hcs
  go_wp2_with fail
  refine (prefer 1 3 a0 0 5 b 0 1 ws kd _ HX.out.fst (nQ_length 1) HT.out ⟨by omega, by omega⟩ ⟨by omega, by omega⟩ (by omega)).mono ?_
  rintro e w2 ⟨rfl, hX2⟩
  have HX2 := hid hX2
  clear hX2 HX hc0
  go_wp2_with fail
  refine (pread b 9 0 0 ws _ HX2.out HRD.out ⟨by omega, by omega⟩).mono ?_
  rintro e w3 ⟨rfl, hX3⟩
  have HX3 := hid hX3
  clear hX3 HX2
  go_wp2_with (first | (go_at_call 8; refine (err_any _ _).mono ?_; rintro e w' ⟨rfl, rfl⟩) | (go_at_call 17; refine (pserial _ HX3.out).mono ?_; rintro e w' ⟨rfl, rfl⟩))
  go_ret
  exact ⟨rfl, HX3.out.K⟩

end Go.Proofs.YtamcoejlghfleaaGreat

/-
  The document's own heap: Final, Refs, a new one.
-/
namespace Go.Proofs.YtamcoejlghfleaaGreat
open Go.RowKit

section
variable {w0 : World} {F0 : List Nat} {hb : Nat} {ws : List Int} {kd : List PK} {ds : List (Int × List Int)}
end

end Go.Proofs.YtamcoejlghfleaaGreat

/-
  The document's own heap: Refs, a new one.
-/
namespace Go.Proofs.YtamcoejlghfleaaGreat
open Go.RowKit

theorem upL_snoc (q : Nat) : upL ((q + 1 : Nat) : Int) = upL (q : Int) ++ [(q : Int)] := by
  unfold upL
  rw [Int.toNat_natCast, Int.toNat_natCast, List.range_succ, List.map_append]; rfl
section
variable {w0 : World} {F0 : List Nat} {hb : Nat} {ws : List Int} {kd : List PK} {ds : List (Int × List Int)}
end

set_option maxRecDepth 100000 in
set_option maxHeartbeats 1600000 in
theorem rnewheap {w0 w : World} {F0 : List Nat} {A : Asn} (n : Nat) (h : Has w0 F0 A w) (h1 : 1 ≤ n) (h2 : n ≤ 256) :
    Calls Tryz.prog 29 #[.int .i64 n] w fun e w' => ∃ mb, e = .returned (.pointer (some ⟨mb, 0, none⟩)) ∧ Has w0 F0 (A.star (rheapA mb (zeros (64 * n)) (freshK n) [])) w' := by
  have HA := (show Hid (Has w0 F0 A w) from h)
  clear h
  go_enter Tryz.func29, Tryz.ntmps29
  go_wp2_with (first | (go_at_call 58; refine (rnews_ok n _ h1 h2).mono ?_; rintro e w1 ⟨mb, G, rfl, hR, hK, hG⟩; have HR := (show Hid (IsRef w1 mb G (zeros (64 * n)) (freshK n) ∧ Keep [] w w1 ∧ ∀ k, k ∈ G → w.heap.size ≤ k) from ⟨hR, hK, hG⟩); clear hR hK hG))
  go_ret
  obtain ⟨hR, hK, hG⟩ := HR.out
  have hK2 := Keep.alloc [] w1 (.cells #[.pointer (some ⟨mb, 0, none⟩), .slice none 0 0] 98)
  have hs := hK.size
  refine ⟨_, rfl, HA.out.more (B := rheapA w1.heap.size (zeros (64 * n)) (freshK n) []) (G := w1.heap.size :: G) (hK.trans hK2) ⟨⟨mb, [w1.heap.size], G, fun k => by simp, ⟨none, 0, [], ⟨heap_alloc_new w1 _, World.ownsRow_nil _ _ _ _, (fun a e => by cases e), (by simp), (fun i c h => by simp at h), fun k hk => by simp at hk; simp [hk]⟩, rfl⟩, hR.keep hK2 (by simp), fun k e e' => ?_⟩, Fine.fresh n h1 h2⟩ ?_⟩
  · simp at e
    have := hR.lt k e'
    omega
  · intro k hk
    simp at hk
    rcases hk with rfl | hk
    · omega
    · exact hG k hk

end Go.Proofs.YtamcoejlghfleaaGreat

/-
  Heap and awake of gloaminglaw12: a heap with so many references.
-/
namespace Go.Proofs.YtamcoejlghfleaaGreat
open Go.RowKit

theorem Tryz.infoInt12 : (Tryz.prog.info? 3).map (fun i => (i.zero, i.size, i.bytes)) = some (some (.int .i64 0), 1, 8) := by kernel_rfl

theorem Has.qlen {w0 w : World} {F0 : List Nat} {A : Asn} {la : Option Addr} {A0 : Nat → Nat} {n : Nat} (h : Has w0 F0 (A.star (listA la (aL A0 n))) w) (hn : 0 < n) : ∃ b off, la = some ⟨b, off, none⟩ ∧ ∀ i, i < n → w.cell? ⟨b, off + i, none⟩ = some (.int .i64 (A0 i : Int)) := by
  obtain ⟨b, off, e, _, hc⟩ := h.snd.list.cells (by rw [aL_length]; exact hn)
  refine ⟨b, off, e, fun i hi => ?_⟩
  rw [hc i (by rw [aL_length]; exact hi), aL_get A0 n i hi]

end Go.Proofs.YtamcoejlghfleaaGreat
