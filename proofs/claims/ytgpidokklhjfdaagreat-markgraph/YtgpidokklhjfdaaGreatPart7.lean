/-
  Contracts of what the statement calls, one text behind the other (Sep2, RRefsOwn, ReachM, TraceM, ObjAll, ObjRoom, EachM, Mids, Opens, OpenAsk).
-/
import Derived.Test.YtgpidokklhjfdaaGreatPart6
import Derived.Test.YtgpidokklhjfdaaGreatPart3
import Derived.Test.YtgpidokklhjfdaaGreatPart1
import Derived.Deep.AppendLies
import Derived.ProofKit
import Derived.OpenShut
import Derived.Deep.Slices

/-
  More of memory in parts: the first part's block is another, a new block, calls on the first part.
-/
namespace Go.Proofs.YtgpidokklhjfdaaGreat
open Go.RowKit

theorem hid {p : Prop} (h : p) : Hid p := h
section
variable {w0 w : World} {F0 : List Nat}
/-- The first part's block is another. -/
theorem Has.setB {A : Asn} {w' : World} {b : Nat} {o o' : Obj} (h : Has w0 F0 ((blockA b o).star A) w) (K : Keep [b] w w') (ho : w'.heap[b]? = some o') : Has w0 F0 ((blockA b o').star A) w' :=
  Has.left h (fun F hF => ⟨[b], ⟨rfl, ho⟩, by rw [hF.1]; exact K, fun k e => by rw [hF.1]; exact .inl e⟩)
theorem Has.swap {A B C : Asn} (h : Has w0 F0 ((A.star B).star C) w) : Has w0 F0 ((A.star C).star B) w :=
  (h.assoc.map (fun _ g => star_mono (fun _ g => star_comm g) g)).assoc'
/-- A block that is new. -/
theorem Has.newB {A : Asn} (h : Has w0 F0 A w) (o : Obj) : Has w0 F0 (A.star (blockA w.heap.size o)) (w.alloc o) :=
  h.more (Keep.alloc [] w o) (G := [w.heap.size]) ⟨rfl, heap_alloc_new w o⟩ (fun k hk => by simp at hk; omega)
/-- A call that turns the first part into one that it tells of. -/
theorem has_left_ex {X : Type} {P : Program} {f : FuncId} {args : Array Value} {A B : Asn} {A' : X → Asn} {Q : X → Ending → World → Prop} (h : Has w0 F0 (A.star B) w) (hc : ∀ F, Has w F A w → Calls P f args w fun e w' => ∃ x, Q x e w' ∧ Has w F (A' x) w') :
    Calls P f args w fun e w' => ∃ x, Q x e w' ∧ Has w0 F0 ((A' x).star B) w' := by
  obtain ⟨F, ⟨F1, F2, hF, h1, h2, hd⟩, u⟩ := h
  refine (hc F1 (Has.start h1)).mono ?_
  rintro e w' ⟨x, hq, F', g1, g2⟩
  obtain ⟨F'', h5, h6⟩ := star_left hF hd h2 g1 g2
  exact ⟨x, hq, F'', h5, u.trans h6⟩
/-- A call that turns nothing of the first part. -/
theorem has_fst {P : Program} {f : FuncId} {args : Array Value} {A B : Asn} {Q : Ending → World → Prop} (h : Has w0 F0 (A.star B) w) (hc : Has w0 F0 A w → Calls P f args w fun e w' => Q e w' ∧ Keep [] w w') :
    Calls P f args w fun e w' => Q e w' ∧ Has w0 F0 (A.star B) w' := by
  refine (hc h.fst).mono ?_
  rintro e w' ⟨hq, hK⟩
  exact ⟨hq, h.keep0 hK⟩
end

end Go.Proofs.YtgpidokklhjfdaaGreat

/-
  The document's own heap: what Refs answers lies in the heap's own memory, or is new.
-/
namespace Go.Proofs.YtgpidokklhjfdaaGreat
open Go.RowKit

/-- A heap, and a list of integers that lies in its memory or beside it. -/
def rlistA (hb : Nat) (ws : List Int) (kd : List PK) (ds : List (Int × List Int)) (la : Option Addr) (L : List Int) : Asn where
  at' w F := ∃ F1, (∀ k, k ∈ F1 → k ∈ F) ∧ (rheapA hb ws kd ds).at' w F1 ∧ IntsAt w la L ∧ (∀ a, la = some a → a.block ∈ F) ∧ ∀ k, k ∈ F → k < w.heap.size
  keep := fun h K hS => by
    obtain ⟨F1, h1, h2, h3, h4, h5⟩ := h
    exact ⟨F1, h1, (rheapA _ _ _ _).keep h2 K (fun k e => hS k (h1 k e)), h3.keep K (fun _ a e => hS _ (h4 a e)), h4, fun k e => Nat.lt_of_lt_of_le (h5 k e) K.size⟩
  lt := fun h => by
    obtain ⟨_, _, _, _, _, h5⟩ := h
    exact h5
section
variable {w0 w : World} {F0 : List Nat} {hb mb : Nat} {ws : List Int} {kd : List PK} {ds : List (Int × List Int)}
theorem Has.rlheap {la : Option Addr} {L : List Int} (h : Has w0 F0 (rlistA hb ws kd ds la L) w) : Has w0 F0 (rheapA hb ws kd ds) w := by
  obtain ⟨F, ⟨F1, h1, h2, _⟩, u⟩ := h
  exact ⟨F1, h2, u.keep, fun k e => u.grow k (h1 k e)⟩
theorem Has.rlints {la : Option Addr} {L : List Int} (h : Has w0 F0 (rlistA hb ws kd ds la L) w) : IntsAt w la L := h.fact (fun _ h => by obtain ⟨_, _, _, h3, _⟩ := h; exact h3)
theorem Has.rldrop {la : Option Addr} {L : List Int} {B : Asn} (h : Has w0 F0 ((rlistA hb ws kd ds la L).star B) w) : Has w0 F0 ((rheapA hb ws kd ds).star B) w := by
  obtain ⟨F, ⟨F1, F2, hF, ⟨F3, h1, h2, _⟩, hB, hd⟩, u⟩ := h
  refine ⟨F3 ++ F2, ⟨F3, F2, fun k => by simp, h2, hB, fun k e => hd k (h1 k e)⟩, u.keep, fun k e => u.grow k ((hF k).2 ?_)⟩
  rcases List.mem_append.1 e with e | e
  · exact .inl (h1 k e)
  · exact .inr e
/-- A list that is new. -/
theorem Has.rlnew {w' : World} {la : Option Addr} {L : List Int} (h : Has w0 F0 (rheapA hb ws kd ds) w) (K : Keep [] w w') (hI : IntsAt w' la L) (hfar : ∀ x, la = some x → w.heap.size ≤ x.block ∧ x.block < w'.heap.size) : Has w0 F0 (rlistA hb ws kd ds la L) w' := by
  obtain ⟨F, h1, u⟩ := h
  have hlt := (rheapA hb ws kd ds).lt h1
  refine ⟨F ++ la.toList.map (·.block), ⟨F, fun k e => by simp [e], (rheapA hb ws kd ds).keep h1 K (by simp), hI, fun a e => by simp [e], fun k e => ?_⟩, (u.trans (Upd.refl K)).keep, fun k e => ?_⟩
  · rcases List.mem_append.1 e with e | e
    · exact Nat.lt_of_lt_of_le (hlt k e) K.size
    · rw [List.mem_map] at e
      obtain ⟨a, e1, rfl⟩ := e
      exact (hfar a (by simpa using e1)).2
  · rcases List.mem_append.1 e with e | e
    · exact u.grow k e
    · rw [List.mem_map] at e
      obtain ⟨a, e1, rfl⟩ := e
      exact .inr (Nat.le_trans u.keep.size (hfar a (by simpa using e1)).1)
theorem Has.rclassL (h : Has w0 F0 (rrawA hb mb ws kd ds) w) (hf : Fine ws kd ds) {i : Nat} {l : Int} {L : List Int} (hi : ds[i]? = some (l, L)) : ∃ g vc ao cp, w.cell? ⟨hb, 1, none⟩ = some (.slice (some ⟨g, 0, none⟩) ds.length vc) ∧ w.cell? ⟨g, i * 2, none⟩ = some (.int .i64 l) ∧ w.cell? ⟨g, i * 2 + 1, none⟩ = some (.slice ao L.length cp) ∧ IntsAt w ao L ∧ Has w0 F0 (rlistA hb ws kd ds ao L) w := by
  obtain ⟨F, hat, u⟩ := h
  have hat' := hat
  obtain ⟨F1, F2, hF, ⟨va, vc, cs, h1, rfl⟩, h2, _⟩ := hat
  rw [List.getElem?_map] at hi
  cases hc : cs[i]? with
  | none => rw [hc] at hi; cases hi
  | some c =>
    rw [hc] at hi
    obtain ⟨cf, ca, cp, cL⟩ := c
    simp [CV.d] at hi
    obtain ⟨rfl, rfl⟩ := hi
    have hin : i < cs.length := by
      rcases Nat.lt_or_ge i cs.length with h | h
      · exact h
      · rw [List.getElem?_eq_none h] at hc; cases hc
    obtain ⟨hI, hcc, _, h4⟩ := h1.each i _ hc
    obtain ⟨q0, q1⟩ := flat_get0 cs i _ hc
    have hcell := h1.cell
    rcases h1.own.2 with ⟨_, h0⟩ | ⟨g, cap, cur, ev, _, hg, _, hcap, hsz, htake⟩
    · omega
    cases ev
    have hcu : ∀ j u, (flat cs)[j]? = some u → w.cell? ⟨g, j, none⟩ = some u := by
      intro j u hu
      have hj : j < cs.length * 2 := by
        rcases Nat.lt_or_ge j (cs.length * 2) with h | h
        · exact h
        · rw [List.getElem?_eq_none (by rw [flat_length]; exact h)] at hu; cases hu
      rw [← htake, List.getElem?_take, if_pos hj] at hu
      have hu' : cur[j]? = some u := by simpa using hu
      simp [World.cell?, hg, hu']
    exact ⟨g, _, ca, cp, by rw [List.length_map]; exact hcell, hcu _ _ q0, hcu _ _ q1, hI, F, ⟨F, fun k e => e, ⟨⟨mb, hat'⟩, hf⟩, hI, fun a e => (hF _).2 (.inl (h4 a e).1), (rrawA hb mb ws kd _).lt hat'⟩, u⟩
set_option maxRecDepth 100000 in
set_option maxHeartbeats 1600000 in
theorem rrefs_plain_list {mb : Nat} (i : Nat) (a c l n : Int) (f : Bool) (L : List Int) (w : World) (h : Has w0 F0 (rrawA hb mb ws kd ds) w) (hci : c = (i : Int) + 1) (hi : ds[i]? = some (n, L)) (hl : ds.length ≤ 256) (hf : Fine ws kd ds) (hc : Calls Tryz.prog 41 #[.pointer (some ⟨hb, 0, none⟩), .int .i64 a] w fun e w' => e = .returned (.agg #[.int .i64 1, .int .i64 c, .int .i64 l, .bool f, .bool true]) ∧ Keep [] w w') :
    Calls Tryz.prog 42 #[.pointer (some ⟨hb, 0, none⟩), .int .i64 a] w fun e w' => ∃ la lc, e = .returned (.slice la L.length lc) ∧ Has w0 F0 (rlistA hb ws kd ds la L) w' := by
  have HC := (show Hid (Calls Tryz.prog 41 #[.pointer (some ⟨hb, 0, none⟩), .int .i64 a] w fun e w' => e = .returned (.agg #[.int .i64 1, .int .i64 c, .int .i64 l, .bool f, .bool true]) ∧ Keep [] w w') from hc)
  have HX := (show Hid (Has w0 F0 (rrawA hb mb ws kd ds) w) from h)
  have HI := (show Hid (ds[i]? = some (n, L)) from hi)
  have hin : i < ds.length := by
    rcases Nat.lt_or_ge i ds.length with h | h
    · exact h
    · rw [List.getElem?_eq_none h] at hi; cases hi
  have hci2 : c - 1 = i := by omega
  obtain ⟨m, hm⟩ : ∃ m, L.length = m := ⟨_, rfl⟩
  have HLM := (show Hid (L.length = m) from hm)
  rw [hm]
  clear hc h hi hci hm
  go_enter Tryz.func42, Tryz.ntmps42
  go_upto_region 6 with (first | (go_at_call 41; refine HC.out.mono ?_; rintro e w1 ⟨rfl, hK1⟩; obtain ⟨_, g0, g1, g2, g3, g4⟩ := five_free (heap_alloc_new w1 (.cells #[.int .i64 1, .int .i64 c, .int .i64 l, .bool f, .bool true] 97))))
  have hKa := hK1.trans (Keep.alloc [] w1 (.cells #[.int .i64 1, .int .i64 c, .int .i64 l, .bool f, .bool true] 97))
  generalize w1.alloc (.cells #[.int .i64 1, .int .i64 c, .int .i64 l, .bool f, .bool true] 97) = w2 at *
  generalize w1.heap.size = bx at *
  obtain ⟨g, vc, ao, cp, r0, r1, r2, r3, r4⟩ := (HX.out.keep0 hKa).rclassL hf HI.out
  have HIA := (show Hid (Has w0 F0 (rlistA hb ws kd ds ao L) w2) from r4)
  obtain ⟨q, hn⟩ : ∃ q, ds.length = q := ⟨_, rfl⟩
  rw [hn] at hin r0 hl
  rw [HLM.out] at r2
  have hii : (i : Int) < q := by omega
  have hi0 : (0 : Int) ≤ (i : Int) := by omega
  clear r1 r3 r4 hn hK1
  go_quiet (fail)
  have HIB := hid (HIA.out.keep0 (Keep.drewN [] w2 nq))
  go_wp2_with fail
  go_ret
  exact ⟨ao, cp, rfl, HIB.out⟩
set_option maxRecDepth 100000 in
set_option maxHeartbeats 1600000 in
theorem rrefs_all_list (a c l : Int) (n : Nat) (f : Bool) (w : World) (hn : l = n) (hl : l ≤ 1023) (hc : Calls Tryz.prog 41 #[.pointer (some ⟨hb, 0, none⟩), .int .i64 a] w fun e w' => e = .returned (.agg #[.int .i64 2, .int .i64 c, .int .i64 l, .bool f, .bool true]) ∧ Keep [] w w') :
    Calls Tryz.prog 42 #[.pointer (some ⟨hb, 0, none⟩), .int .i64 a] w fun e w' => ∃ la lc, e = .returned (.slice la n lc) ∧ IntsAt w' la (upL l) ∧ (∀ x, la = some x → w.heap.size ≤ x.block ∧ x.block < w'.heap.size) ∧ Keep [] w w' := by
  subst hn
  obtain ⟨i0, hi, hz0, hz1, hz2⟩ := info_parts Tryz.infoIntC
  have hI : Hid (Tryz.prog.info? 3 = some i0 ∧ i0.zero = some (.int .i64 0) ∧ i0.size = 1 ∧ i0.bytes = 8) := ⟨hi, hz0, hz1, hz2⟩
  clear hi hz0 hz1 hz2
  have HC := (show Hid (Calls Tryz.prog 41 #[.pointer (some ⟨hb, 0, none⟩), .int .i64 a] w fun e w' => e = .returned (.agg #[.int .i64 2, .int .i64 c, .int .i64 n, .bool f, .bool true]) ∧ Keep [] w w') from hc)
  clear hc
  go_enter Tryz.func42, Tryz.ntmps42
  go_upto_region 8 with (first | (go_at_call 41; refine HC.out.mono ?_; rintro e w1 ⟨rfl, hK1⟩; obtain ⟨_, g0, g1, g2, g3, g4⟩ := five_free (heap_alloc_new w1 (.cells #[.int .i64 2, .int .i64 c, .int .i64 n, .bool f, .bool true] 97))))
  have hKa := hK1.trans (Keep.alloc [] w1 (.cells #[.int .i64 2, .int .i64 c, .int .i64 n, .bool f, .bool true] 97))
  generalize w1.alloc (.cells #[.int .i64 2, .int .i64 c, .int .i64 n, .bool f, .bool true] 97) = w2 at *
  generalize w1.heap.size = bx at *
  clear hK1 g0 g1 g3 g4
  go_wp2_with fail
  go_loopw [6, 7] (fun v i wr => ∃ q : Nat, i = .int .i64 q ∧ q ≤ n ∧ Hid (wr.ownsRow w2.heap.size 3 1 v q (ints (upL (q : Int)))) ∧ Keep [] w2 wr) (fun _ i _ => n - (intOf i).toNat)
  case atStart => exact ⟨0, rfl, by omega, World.ownsRow_nil _ _ _ _, Keep.refl _ _⟩
  case round =>
    rename_i v6 _
    obtain ⟨q, rfl, hq, HO, hK⟩ := hrel
    obtain ⟨w9, rfl⟩ : ∃ w9, w9 = wr := ⟨_, rfl⟩
    have g9 := (hK.cell (lt_of_cell2 g2) (by simp) 2).trans g2
    have hs9 := hK.size
    by_cases hlt : q < n
    · go_wp2_with (first | (at_builtin; refine append_ints rfl (.tmp 39) (.tmp 41) 25 rfl w2.heap.size 3 i0 Tryz.underlying25 hI.out _ q (upL (q : Int)) [(q : Int)] rfl (HO.out.alloc _) (some ⟨w9.heap.size, 0, none⟩) 1 1 rfl rfl (IntsAt.single w9 3 q (by omega) (by omega)) (fun e => by cases e) (by omega) (by simp; omega) ?_; intro v' w5 hown5 hgrow; have HK5 := (show Hid (Keep [] w2 w5) from (hK.trans (Keep.alloc [] _ _)).grown hgrow (own_block HO.out)); have HO5 := (show Hid (w5.ownsRow w2.heap.size 3 1 v' (q + 1) (ints (upL ((q + 1 : Nat) : Int)))) from by show World.ownsRow _ _ _ _ _ _ _; rw [upL_snoc]; exact hown5); clear hown5 hgrow))
      go_roundw
      case rel => exact ⟨q + 1, by go_num, by omega, HO5, HK5.out⟩
      case measure => simp [intOf]; omega
    · obtain rfl : q = n := by omega
      obtain ⟨la, lc, rfl, hL, hI2, hfar, _⟩ := own_form HO.out (upL_bd _ hl)
      have hs2 := hKa.size
      have HFAR := (show Hid (∀ x, la = some x → w.heap.size ≤ x.block ∧ x.block < w9.heap.size) from fun x e => ⟨by have := (hfar x e).1; omega, (hfar x e).2⟩)
      have HII := (show Hid (IntsAt w9 la (upL (q : Int))) from hI2)
      clear hL hI2 HO hfar
      go_wp2_with fail
      go_ret
      exact ⟨la, lc, rfl, HII.out, HFAR.out, hKa.trans hK⟩
theorem rrefs_list (a : Int) (L : List Int) (w : World) (h : Has w0 F0 (rheapA hb ws kd ds) w) (hT : RefsT kd ws ds a L) :
    Calls Tryz.prog 42 #[.pointer (some ⟨hb, 0, none⟩), .int .i64 a] w fun e w' => ∃ la lc, e = .returned (.slice la L.length lc) ∧ Has w0 F0 (rlistA hb ws kd ds la L) w' := by
  have hf := h.rfine
  obtain ⟨mb, hr⟩ := h.rraw
  cases hT with
  | none hn =>
    refine (rrefs_other a _ _ _ _ _ w (.inl rfl) (rhead a _ _ _ _ _ w h (.no hn))).mono ?_
    rintro e w' ⟨rfl, hK⟩
    exact ⟨none, 0, rfl, h.rlnew hK (IntsAt.nil _ _) (by simp)⟩
  | data b m c l f hA =>
    refine (rrefs_other a _ _ _ _ _ w (.inr (by omega)) (rhead a _ _ _ _ _ w h (.yes b m 3 c l f hA))).mono ?_
    rintro e w' ⟨rfl, hK⟩
    exact ⟨none, 0, rfl, h.rlnew hK (IntsAt.nil _ _) (by simp)⟩
  | ref b m c l f hA =>
    refine (rrefs_ref a _ _ _ w (rhead a _ _ _ _ _ w h (.yes b m 4 c l f hA))).mono ?_
    rintro e w' ⟨z, rfl, hR, hz, hK⟩
    exact ⟨_, 1, rfl, h.rlnew hK (hR.ints two_bd) (fun x e => by cases e; exact ⟨hz, hR.lt⟩)⟩
  | refs b m c l f hA =>
    have hbd := hA.2.2.bd
    obtain ⟨q, hq⟩ := Int.eq_ofNat_of_zero_le hbd.2.2.2.2.1
    refine (rrefs_all_list a _ l q _ w hq (by omega) (rhead a _ _ _ _ _ w h (.yes b m 2 c l f hA))).mono ?_
    rintro e w' ⟨la, lc, rfl, hR, hfar, hK⟩
    exact ⟨_, lc, by rw [upL_length, hq]; rfl, h.rlnew hK hR hfar⟩
  | plain b m i c l f L hA hci hi => exact rrefs_plain_list i a c l l f L w hr hci hi hf.few hf (rhead a _ _ _ _ _ w h (.yes b m 1 c l f hA))
end

end Go.Proofs.YtgpidokklhjfdaaGreat

/-
  What is reached over the objects of a heap, and marks of it: plain facts. Marks are places of words; a mark's mathematics speaks of no program.
-/
namespace Go.Proofs.YtgpidokklhjfdaaGreat
open Go.RowKit

/-- Whether a word is marked. -/
def onM (xs : List Bool) (x : Int) : Bool := decide (0 ≤ x) && xs[x.toNat]?.getD false
theorem onM_nat (xs : List Bool) (k : Nat) : onM xs (k : Int) = xs[k]?.getD false := by unfold onM; simp
theorem onM_neg (xs : List Bool) {x : Int} (h : x < 0) : onM xs x = false := by unfold onM; rw [decide_eq_false (by omega)]; rfl
theorem onM_lt {xs : List Bool} {x : Int} (h : onM xs x = true) : 0 ≤ x ∧ x.toNat < xs.length := by
  unfold onM at h
  simp at h
  refine ⟨h.1, ?_⟩
  rcases Nat.lt_or_ge x.toNat xs.length with e | e
  · exact e
  · have := h.2; rw [List.getElem?_eq_none e] at this; simp at this
theorem onM_set (xs : List Bool) (b : Nat) (h : b < xs.length) (y : Int) : onM (xs.set b true) y = (decide (y = (b : Int)) || onM xs y) := by
  by_cases h0 : 0 ≤ y
  · obtain ⟨k, rfl⟩ := Int.eq_ofNat_of_zero_le h0
    rw [onM_nat, onM_nat]
    by_cases e : k = b
    · subst e; rw [bset_same _ _ _ h]; simp
    · rw [bset_other _ _ _ _ (fun e' => e e'.symm), decide_eq_false (by omega)]; rfl
  · rw [onM_neg _ (by omega), onM_neg _ (by omega), decide_eq_false (by omega)]; rfl
theorem onM_offs (n : Nat) (x : Int) : onM (offs n) x = false := by unfold onM; rw [offs_get]; simp
theorem onM_ext {xs ys : List Bool} (hl : xs.length = ys.length) (h : ∀ x, onM xs x = true ↔ onM ys x = true) : xs = ys := by
  refine beq_of_getD hl (fun t => ?_)
  have h1 := h (t : Int)
  rw [onM_nat, onM_nat] at h1
  cases e1 : xs[t]?.getD false <;> cases e2 : ys[t]?.getD false <;> simp_all

section
variable {kd : List PK} {ws : List Int} {ds : List (Int × List Int)}
theorem At.same {a k c l k' c' l' : Int} {b m b' m' : Nat} {f f' : Bool} (h : At kd ws a b m k c l f) (g : At kd ws a b' m' k' c' l' f') : b = b' ∧ m = m' ∧ k = k' ∧ c = c' ∧ l = l' ∧ f = f' := by
  obtain ⟨e1, e2, e3⟩ := h
  obtain ⟨g1, g2, g3⟩ := g
  obtain rfl : b = b' := by omega
  rw [e2] at g2
  obtain ⟨_, _, p1, p2, p3, p4⟩ := e3.parts
  obtain ⟨_, _, q1, q2, q3, q4⟩ := g3.parts
  injection g2 with g2
  injection g2 with _ g2
  refine ⟨rfl, g2, p1.symm.trans q1, p2.symm.trans q2, p3.symm.trans q3, ?_⟩
  exact p4.symm.trans q4
theorem At.nat_ (a : Int) {b m : Nat} {k c l : Int} {f : Bool} (h : At kd ws a b m k c l f) (g : NotAt kd a) : False := by
  obtain ⟨rfl, e2, _⟩ := h
  exact g b m (by rw [find_nat]; exact e2) rfl
theorem refsT_one {a : Int} {L L' : List Int} (h : RefsT kd ws ds a L) (g : RefsT kd ws ds a L') : L = L' := by
  cases h with
  | none h =>
    cases g with
    | none g => rfl
    | plain b m i c l f _ g => exact (At.nat_ a g h).elim
    | refs b m c l f g => exact (At.nat_ a g h).elim
    | data b m c l f g => rfl
    | ref b m c l f g => exact (At.nat_ a g h).elim
  | plain b m i c l f _ h e1 e2 =>
    cases g with
    | none g => exact (At.nat_ a h g).elim
    | plain b' m' i' c' l' f' _ g e1' e2' =>
      obtain ⟨_, _, _, hc, hl, _⟩ := h.same g
      obtain rfl : i = i' := by omega
      rw [e2] at e2'
      injection e2' with e
      injection e
    | refs b' m' c' l' f' g => obtain ⟨_, _, hk, _⟩ := h.same g; omega
    | data b' m' c' l' f' g => obtain ⟨_, _, hk, _⟩ := h.same g; omega
    | ref b' m' c' l' f' g => obtain ⟨_, _, hk, _⟩ := h.same g; omega
  | refs b m c l f h =>
    cases g with
    | none g => exact (At.nat_ a h g).elim
    | plain b' m' i' c' l' f' _ g e1' e2' => obtain ⟨_, _, hk, _⟩ := h.same g; omega
    | refs b' m' c' l' f' g => obtain ⟨_, _, _, _, hl, _⟩ := h.same g; rw [hl]
    | data b' m' c' l' f' g => obtain ⟨_, _, hk, _⟩ := h.same g; omega
    | ref b' m' c' l' f' g => obtain ⟨_, _, hk, _⟩ := h.same g; omega
  | data b m c l f h =>
    cases g with
    | none g => rfl
    | plain b' m' i' c' l' f' _ g e1' e2' => obtain ⟨_, _, hk, _⟩ := h.same g; omega
    | refs b' m' c' l' f' g => obtain ⟨_, _, hk, _⟩ := h.same g; omega
    | data b' m' c' l' f' g => rfl
    | ref b' m' c' l' f' g => obtain ⟨_, _, hk, _⟩ := h.same g; omega
  | ref b m c l f h =>
    cases g with
    | none g => exact (At.nat_ a h g).elim
    | plain b' m' i' c' l' f' _ g e1' e2' => obtain ⟨_, _, hk, _⟩ := h.same g; omega
    | refs b' m' c' l' f' g => obtain ⟨_, _, hk, _⟩ := h.same g; omega
    | data b' m' c' l' f' g => obtain ⟨_, _, hk, _⟩ := h.same g; omega
    | ref b' m' c' l' f' g => rfl
theorem placeT_one {a i E E' : Int} {p p' : Nat} (h : PlaceT kd ws a i p E) (g : PlaceT kd ws a i p' E') : p = p' ∧ E = E' := by
  cases h with
  | none h =>
    cases g with
    | none g => exact ⟨rfl, rfl⟩
    | arg b m k c l f g _ => exact (At.nat_ a g h).elim
    | yes b m j k c l f g _ _ _ => exact (At.nat_ a g h).elim
  | arg b m k c l f h h2 =>
    cases g with
    | none g => exact (At.nat_ a h g).elim
    | arg b' m' k' c' l' f' g _ => exact ⟨rfl, rfl⟩
    | yes b' m' j k' c' l' f' g e1 e2 _ => obtain ⟨_, _, _, _, hl, _⟩ := h.same g; omega
  | yes b m j k c l f h h2 h3 h4 =>
    cases g with
    | none g => exact (At.nat_ a h g).elim
    | arg b' m' k' c' l' f' g e1 => obtain ⟨_, _, _, _, hl, _⟩ := h.same g; omega
    | yes b' m' j' k' c' l' f' g e1 e2 _ => obtain ⟨hb, _, _, _, hl, _⟩ := h.same g; exact ⟨by omega, rfl⟩
theorem fieldT_one {a i N N' E E' : Int} (h : FieldT kd ws a i N E) (g : FieldT kd ws a i N' E') : N = N' ∧ E = E' := by
  cases h with
  | no E h e =>
    cases g with
    | no E' g e' => exact ⟨rfl, (placeT_one h g).2⟩
    | yes p g _ => have := (placeT_one h g).2; omega
  | yes p h _ =>
    cases g with
    | no E' g e' => have := (placeT_one h g).2; omega
    | yes p' g _ => rw [(placeT_one h g).1]; exact ⟨rfl, rfl⟩

/-- y stands in a field of x, of those that Refs tells. -/
def Led (kd : List PK) (ws : List Int) (ds : List (Int × List Int)) (x y : Int) : Prop := ∃ R i E, RefsT kd ws ds x R ∧ i ∈ R ∧ FieldT kd ws x i y E
/-- The objects among M, and all that they lead to. -/
inductive Reach (kd : List PK) (ws : List Int) (ds : List (Int × List Int)) (M : List Int) : Int → Prop
  | root {x : Int} : x ∈ M → isAt kd x = true → Reach kd ws ds M x
  | step {x y : Int} : Reach kd ws ds M x → Led kd ws ds x y → isAt kd y = true → Reach kd ws ds M y
theorem Reach.at' {M : List Int} {x : Int} (h : Reach kd ws ds M x) : isAt kd x = true := by
  cases h with
  | root _ h => exact h
  | step _ _ h => exact h
theorem Reach.mono {M M' : List Int} {x : Int} (h : Reach kd ws ds M x) (hM : ∀ y, y ∈ M → Reach kd ws ds M' y ∨ isAt kd y = false) : Reach kd ws ds M' x := by
  induction h with
  | root h1 h2 =>
    rcases hM _ h1 with e | e
    · exact e
    · rw [e] at h2; cases h2
  | step _ h1 h2 ih => exact .step ih h1 h2
/-- Marks that may be: objects alone, and all that they lead to. -/
structure MOk (kd : List PK) (ws : List Int) (ds : List (Int × List Int)) (xs : List Bool) : Prop where
  len : xs.length = ws.length
  obj : ∀ x, onM xs x = true → isAt kd x = true
  cl : ∀ x y, onM xs x = true → Led kd ws ds x y → isAt kd y = true → onM xs y = true
theorem MOk.offs : MOk kd ws ds (offs ws.length) := ⟨offs_length _, fun x h => (by rw [onM_offs] at h; cases h), fun x y h => (by rw [onM_offs] at h; cases h)⟩
/-- What Mark leaves. -/
structure MarkT (kd : List PK) (ws : List Int) (ds : List (Int × List Int)) (xs : List Bool) (M : List Int) (ys : List Bool) : Prop where
  len : ys.length = xs.length
  iff : ∀ x, onM ys x = true ↔ onM xs x = true ∨ Reach kd ws ds M x
theorem MarkT.ok {xs ys : List Bool} {M : List Int} (h : MarkT kd ws ds xs M ys) (hx : MOk kd ws ds xs) : MOk kd ws ds ys := by
  refine ⟨by rw [h.len, hx.len], fun x e => ?_, fun x y e h1 h2 => ?_⟩
  · rcases (h.iff x).1 e with e | e
    · exact hx.obj x e
    · exact e.at'
  · rcases (h.iff x).1 e with e | e
    · exact (h.iff y).2 (.inl (hx.cl x y e h1 h2))
    · exact (h.iff y).2 (.inr (.step e h1 h2))
theorem MarkT.one {xs ys zs : List Bool} {M : List Int} (h : MarkT kd ws ds xs M ys) (g : MarkT kd ws ds xs M zs) : ys = zs :=
  onM_ext (by rw [h.len, g.len]) (fun x => (h.iff x).trans (g.iff x).symm)

/-- A tracing under way, by a list that grows: T is what was found, its first i places are done. -/
structure RM (kd : List PK) (ws : List Int) (ds : List (Int × List Int)) (xs : List Bool) (M T : List Int) (i : Nat) (ys : List Bool) : Prop where
  len : ys.length = xs.length
  old : ∀ x, onM xs x = true → onM ys x = true
  sound : ∀ x, onM ys x = true → onM xs x = true ∨ Reach kd ws ds M x
  src : ∀ y, y ∈ T → isAt kd y = true → Reach kd ws ds M y
  root : ∀ y, y ∈ M → y ∈ T
  seen : ∀ t, t < i → isAt kd (T[t]?.getD 0) = true → onM ys (T[t]?.getD 0) = true
  exp : ∀ x, onM ys x = true → onM xs x = false → ∀ y, Led kd ws ds x y → y ∈ T
theorem RM.start (xs : List Bool) (M : List Int) : RM kd ws ds xs M M 0 xs :=
  ⟨rfl, fun _ h => h, fun _ h => .inl h, fun _ h e => .root h e, fun _ h => h, fun t ht => by omega, fun x h e => (by rw [h] at e; cases e)⟩
theorem RM.skip {xs ys : List Bool} {M T : List Int} {i : Nat} (h : RM kd ws ds xs M T i ys) (hi : isAt kd (T[i]?.getD 0) = true → onM ys (T[i]?.getD 0) = true) : RM kd ws ds xs M T (i + 1) ys :=
  ⟨h.len, h.old, h.sound, h.src, h.root, fun t ht e => by
    by_cases e' : t = i
    · subst e'; exact hi e
    · exact h.seen t (by omega) e, h.exp⟩
/-- What an object leads to, in the order of its fields. -/
def KidsT (kd : List PK) (ws : List Int) (R : List Int) (x : Int) (Z : List Int) : Prop := Z.length = R.length ∧ ∀ k, k < R.length → ∃ E, FieldT kd ws x (R[k]?.getD 0) (Z[k]?.getD 0) E
theorem RM.mark {xs ys : List Bool} {M T R Z : List Int} {i b : Nat} (h : RM kd ws ds xs M T i ys) (hT : i < T.length) (hb : T[i]?.getD 0 = (b : Int)) (hat : isAt kd (b : Int) = true) (hl : b < ys.length) (hR : RefsT kd ws ds b R) (hZ : KidsT kd ws R b Z) : RM kd ws ds xs M (T ++ Z) (i + 1) (ys.set b true) := by
  have hmem : (b : Int) ∈ T := by
    rw [← hb, List.getElem?_eq_getElem hT]; exact List.getElem_mem hT
  have hr : Reach kd ws ds M b := h.src b hmem hat
  refine ⟨by rw [List.length_set]; exact h.len, fun x e => ?_, fun x e => ?_, fun y hy e => ?_, fun y hy => List.mem_append.2 (.inl (h.root y hy)), fun t ht e => ?_, fun x e e2 y hy => ?_⟩
  · rw [onM_set _ _ hl, h.old x e]; simp
  · rw [onM_set _ _ hl] at e
    simp only [Bool.or_eq_true, decide_eq_true_eq] at e
    rcases e with rfl | e
    · exact .inr hr
    · exact h.sound x e
  · rcases List.mem_append.1 hy with hy | hy
    · exact h.src y hy e
    · obtain ⟨k, hk, rfl⟩ := List.getElem_of_mem hy
      obtain ⟨E, hE⟩ := hZ.2 k (by rw [← hZ.1]; exact hk)
      rw [List.getElem?_eq_getElem hk] at hE
      have hkR : k < R.length := by rw [← hZ.1]; exact hk
      refine .step hr ⟨R, _, E, hR, ?_, hE⟩ e
      rw [List.getElem?_eq_getElem hkR]; exact List.getElem_mem hkR
  · rw [onM_set _ _ hl]
    rw [List.getElem?_append_left (by omega)] at e ⊢
    by_cases e' : t = i
    · subst e'; rw [hb]; simp
    · rw [h.seen t (by omega) e]; simp
  · rw [onM_set _ _ hl] at e
    simp only [Bool.or_eq_true, decide_eq_true_eq] at e
    rcases e with rfl | e
    · obtain ⟨R', j, E, g1, g2, g3⟩ := hy
      obtain rfl := refsT_one hR g1
      obtain ⟨k, hk, rfl⟩ := List.getElem_of_mem g2
      obtain ⟨E', hE⟩ := hZ.2 k hk
      rw [List.getElem?_eq_getElem hk] at hE
      have := (fieldT_one hE g3).1
      have hkZ : k < Z.length := by rw [hZ.1]; exact hk
      rw [List.getElem?_eq_getElem hkZ] at this
      rw [← this]
      exact List.mem_append.2 (.inr (List.getElem_mem hkZ))
    · exact List.mem_append.2 (.inl (h.exp x e e2 y hy))
theorem RM.done {xs ys : List Bool} {M T : List Int} {i : Nat} (h : RM kd ws ds xs M T i ys) (hx : MOk kd ws ds xs) (hi : T.length ≤ i) : MarkT kd ws ds xs M ys := by
  have hin : ∀ y, y ∈ T → isAt kd y = true → onM ys y = true := fun y hy e => by
    obtain ⟨t, ht, rfl⟩ := List.getElem_of_mem hy
    have := h.seen t (by omega)
    rw [List.getElem?_eq_getElem ht] at this
    exact this e
  refine ⟨h.len, fun x => ⟨h.sound x, fun e => ?_⟩⟩
  rcases e with e | e
  · exact h.old x e
  · induction e with
    | root h1 h2 => exact hin _ (h.root _ h1) h2
    | step h1 h2 h3 ih =>
      rename_i x y
      cases e : onM xs x with
      | true => exact h.old y (hx.cl x y e h2 h3)
      | false => exact hin y (h.exp x ih e y h2) h3
end

end Go.Proofs.YtgpidokklhjfdaaGreat

/-
  A tracing under way by a bounded stack: what is marked, what is left for later, what stands on the stack, what is still to be looked at; how much of it there is. Plain facts.
-/
namespace Go.Proofs.YtgpidokklhjfdaaGreat
open Go.RowKit

section
variable {kd : List PK} {ws : List Int} {ds : List (Int × List Int)} {xs0 xs ls : List Bool} {M L P R Z : List Int}
/-- A tracing from marks xs0 and addresses M: xs is marked, ls is left for later, L is on the stack, P is still to be looked at. -/
structure TR (kd : List PK) (ws : List Int) (ds : List (Int × List Int)) (xs0 : List Bool) (M : List Int) (xs ls : List Bool) (L P : List Int) : Prop where
  len : xs.length = xs0.length
  len2 : ls.length = xs0.length
  old : ∀ x, onM xs0 x = true → onM xs x = true
  sound : ∀ x, onM xs x = true → onM xs0 x = true ∨ Reach kd ws ds M x
  src : ∀ y, y ∈ P → isAt kd y = true → onM xs0 y = true ∨ Reach kd ws ds M y
  lft : ∀ x, onM ls x = true → onM xs x = true
  stk : ∀ x, x ∈ L → onM xs x = true
  root : ∀ y, y ∈ M → isAt kd y = true → onM xs y = true ∨ y ∈ P
  cl : ∀ x y, onM xs x = true → onM ls x = false → x ∉ L → Led kd ws ds x y → isAt kd y = true → onM xs y = true ∨ y ∈ P
theorem TR.start : TR kd ws ds xs0 M xs0 xs0 [] M :=
  ⟨rfl, rfl, fun _ h => h, fun _ h => .inl h, fun _ h e => .inr (.root h e), fun _ h => h, fun _ h => (by simp at h), fun _ h _ => .inr h, fun x y h e => (by rw [h] at e; cases e)⟩
theorem TR.skip {y : Int} (h : TR kd ws ds xs0 M xs ls L (y :: P)) (hy : isAt kd y = true → onM xs y = true) : TR kd ws ds xs0 M xs ls L P := by
  have key : ∀ z, isAt kd z = true → (onM xs z = true ∨ z ∈ y :: P) → onM xs z = true ∨ z ∈ P := by
    intro z hz e
    rcases e with e | e
    · exact .inl e
    · rcases List.mem_cons.1 e with rfl | e
      · exact .inl (hy hz)
      · exact .inr e
  exact ⟨h.len, h.len2, h.old, h.sound, fun z hz => h.src z (List.mem_cons_of_mem _ hz), h.lft, h.stk, fun z hz e => key z e (h.root z hz e), fun x z h1 h2 h3 h4 h5 => key z h5 (h.cl x z h1 h2 h3 h4 h5)⟩
theorem bset_on {b : Nat} (hb : b < xs.length) (x : Int) : onM (xs.set b true) x = true ↔ x = (b : Int) ∨ onM xs x = true := by
  rw [onM_set _ _ hb]; simp
theorem TR.put {b : Nat} (h : TR kd ws ds xs0 M xs ls L ((b : Int) :: P)) (hat : isAt kd (b : Int) = true) (hb : b < xs.length) : TR kd ws ds xs0 M (xs.set b true) ls (L ++ [(b : Int)]) P := by
  have key : ∀ z, (onM xs z = true ∨ z ∈ (b : Int) :: P) → onM (xs.set b true) z = true ∨ z ∈ P := by
    intro z e
    rw [bset_on hb]
    rcases e with e | e
    · exact .inl (.inr e)
    · rcases List.mem_cons.1 e with rfl | e
      · exact .inl (.inl rfl)
      · exact .inr e
  refine ⟨by rw [List.length_set]; exact h.len, h.len2, fun x e => (bset_on hb x).2 (.inr (h.old x e)), fun x e => ?_, fun z hz => h.src z (List.mem_cons_of_mem _ hz), fun x e => (bset_on hb x).2 (.inr (h.lft x e)), fun x e => ?_, fun z hz e => key z (h.root z hz e), fun x z h1 h2 h3 h4 h5 => ?_⟩
  · rcases (bset_on hb x).1 e with rfl | e
    · exact h.src _ (by simp) hat
    · exact h.sound x e
  · rcases List.mem_append.1 e with e | e
    · exact (bset_on hb x).2 (.inr (h.stk x e))
    · exact (bset_on hb x).2 (.inl (by simpa using e))
  · rcases (bset_on hb x).1 h1 with rfl | h1
    · exact absurd (List.mem_append.2 (.inr (by simp))) h3
    · exact key z (h.cl x z h1 h2 (fun e => h3 (List.mem_append.2 (.inl e))) h4 h5)
theorem TR.over {b : Nat} (h : TR kd ws ds xs0 M xs ls L ((b : Int) :: P)) (hat : isAt kd (b : Int) = true) (hb : b < xs.length) : TR kd ws ds xs0 M (xs.set b true) (ls.set b true) L P := by
  have hb2 : b < ls.length := by rw [h.len2, ← h.len]; exact hb
  have key : ∀ z, (onM xs z = true ∨ z ∈ (b : Int) :: P) → onM (xs.set b true) z = true ∨ z ∈ P := by
    intro z e
    rw [bset_on hb]
    rcases e with e | e
    · exact .inl (.inr e)
    · rcases List.mem_cons.1 e with rfl | e
      · exact .inl (.inl rfl)
      · exact .inr e
  refine ⟨by rw [List.length_set]; exact h.len, by rw [List.length_set]; exact h.len2, fun x e => (bset_on hb x).2 (.inr (h.old x e)), fun x e => ?_, fun z hz => h.src z (List.mem_cons_of_mem _ hz), fun x e => ?_, fun x e => (bset_on hb x).2 (.inr (h.stk x e)), fun z hz e => key z (h.root z hz e), fun x z h1 h2 h3 h4 h5 => ?_⟩
  · rcases (bset_on hb x).1 e with rfl | e
    · exact h.src _ (by simp) hat
    · exact h.sound x e
  · rcases (bset_on hb2 x).1 e with e | e
    · exact (bset_on hb x).2 (.inl e)
    · exact (bset_on hb x).2 (.inr (h.lft x e))
  · have hne : ¬ (x = (b : Int) ∨ onM ls x = true) := fun e => by rw [(bset_on hb2 x).2 e] at h2; cases h2
    rcases (bset_on hb x).1 h1 with e | h1
    · exact absurd (.inl e) hne
    · refine key z (h.cl x z h1 ?_ h3 h4 h5)
      cases e : onM ls x with
      | false => rfl
      | true => exact absurd (.inr e) hne
theorem KidsT.led {x y : Int} (hR : RefsT kd ws ds x R) (hZ : KidsT kd ws R x Z) (h : Led kd ws ds x y) : y ∈ Z := by
  obtain ⟨R', j, E, g1, g2, g3⟩ := h
  obtain rfl := refsT_one hR g1
  obtain ⟨k, hk, rfl⟩ := List.getElem_of_mem g2
  obtain ⟨E', hE⟩ := hZ.2 k hk
  rw [List.getElem?_eq_getElem hk] at hE
  have := (fieldT_one hE g3).1
  have hkZ : k < Z.length := by rw [hZ.1]; exact hk
  rw [List.getElem?_eq_getElem hkZ] at this
  rw [← this]
  exact List.getElem_mem hkZ
theorem KidsT.of {x y : Int} (hR : RefsT kd ws ds x R) (hZ : KidsT kd ws R x Z) (h : y ∈ Z) : Led kd ws ds x y := by
  obtain ⟨k, hk, rfl⟩ := List.getElem_of_mem h
  obtain ⟨E, hE⟩ := hZ.2 k (by rw [← hZ.1]; exact hk)
  rw [List.getElem?_eq_getElem hk] at hE
  have hkR : k < R.length := by rw [← hZ.1]; exact hk
  refine ⟨R, _, E, hR, ?_, hE⟩
  rw [List.getElem?_eq_getElem hkR]; exact List.getElem_mem hkR
theorem TR.led {x y : Int} (h : TR kd ws ds xs0 M xs ls L P) (hx : MOk kd ws ds xs0) (h1 : onM xs x = true) (h2 : Led kd ws ds x y) (h3 : isAt kd y = true) : onM xs0 y = true ∨ Reach kd ws ds M y := by
  rcases h.sound x h1 with e | e
  · exact .inl (hx.cl x y e h2 h3)
  · exact .inr (.step e h2 h3)
theorem TR.kids {x : Int} (h : TR kd ws ds xs0 M xs ls (L ++ [x]) []) (hx : MOk kd ws ds xs0) (hR : RefsT kd ws ds x R) (hZ : KidsT kd ws R x Z) : TR kd ws ds xs0 M xs ls L Z := by
  refine ⟨h.len, h.len2, h.old, h.sound, fun y hy e => h.led hx (h.stk x (by simp)) (KidsT.of hR hZ hy) e, h.lft, fun y e => h.stk y (List.mem_append.2 (.inl e)), fun y hy e => ?_, fun z y h1 h2 h3 h4 h5 => ?_⟩
  · rcases h.root y hy e with e | e
    · exact .inl e
    · simp at e
  · by_cases e : z = x
    · subst e; exact .inr (KidsT.led hR hZ h4)
    · rcases h.cl z y h1 h2 (by simp [h3, e]) h4 h5 with e | e
      · exact .inl e
      · simp at e
theorem boff_on {b : Nat} (hb : b < xs.length) (x : Int) : onM (xs.set b false) x = true ↔ x ≠ (b : Int) ∧ onM xs x = true := by
  by_cases h0 : 0 ≤ x
  · obtain ⟨k, rfl⟩ := Int.eq_ofNat_of_zero_le h0
    rw [onM_nat, onM_nat]
    by_cases e : k = b
    · subst e; rw [bset_same _ _ _ hb]; simp
    · rw [bset_other _ _ _ _ (fun e' => e e'.symm)]
      exact ⟨fun h => ⟨by omega, h⟩, fun h => h.2⟩
  · rw [onM_neg _ (by omega), onM_neg _ (by omega)]; simp
theorem TR.left {b : Nat} (h : TR kd ws ds xs0 M xs ls [] []) (hx : MOk kd ws ds xs0) (hb : onM ls (b : Int) = true) (hR : RefsT kd ws ds b R) (hZ : KidsT kd ws R b Z) : TR kd ws ds xs0 M xs (ls.set b false) [] Z := by
  have hl : b < ls.length := by have := (onM_lt hb).2; simpa using this
  refine ⟨h.len, by rw [List.length_set]; exact h.len2, h.old, h.sound, fun y hy e => h.led hx (h.lft _ hb) (KidsT.of hR hZ hy) e, fun x e => h.lft x ((boff_on hl x).1 e).2, fun y e => (by simp at e), fun y hy e => ?_, fun z y h1 h2 h3 h4 h5 => ?_⟩
  · rcases h.root y hy e with e | e
    · exact .inl e
    · simp at e
  · by_cases e : z = (b : Int)
    · subst e; exact .inr (KidsT.led hR hZ h4)
    · have : onM ls z = false := by
        cases e' : onM ls z with
        | false => rfl
        | true => rw [(boff_on hl z).2 ⟨e, e'⟩] at h2; cases h2
      rcases h.cl z y h1 this (by simp) h4 h5 with e | e
      · exact .inl e
      · simp at e
theorem TR.done (h : TR kd ws ds xs0 M xs ls [] []) (hl : ∀ x, onM ls x = false) : MarkT kd ws ds xs0 M xs := by
  refine ⟨h.len, fun x => ⟨h.sound x, fun e => ?_⟩⟩
  rcases e with e | e
  · exact h.old x e
  · induction e with
    | root h1 h2 =>
      rcases h.root _ h1 h2 with e | e
      · exact e
      · simp at e
    | step _ h2 h3 ih =>
      rcases h.cl _ _ ih (hl _) (by simp) h2 h3 with e | e
      · exact e
      · simp at e
theorem TR.mem {x : Int} (h : TR kd ws ds xs0 M xs ls L P) (hx : x ∈ L) : 0 ≤ x ∧ x.toNat < xs.length := onM_lt (h.stk x hx)
theorem kids_ex (hf : Fine ws kd ds) (R : List Int) (x : Int) : ∃ Z, KidsT kd ws R x Z := by
  refine ⟨R.map (fun i => (fieldT_ex hf x i).choose), by simp, fun k hk => ?_⟩
  obtain ⟨E, hE⟩ := (fieldT_ex hf x (R[k]?.getD 0)).choose_spec
  refine ⟨E, ?_⟩
  have : (R.map (fun i => (fieldT_ex hf x i).choose))[k]?.getD 0 = (fieldT_ex hf x (R[k]?.getD 0)).choose := by
    simp [hk]
  rw [this]
  exact hE

/-- How much is left to do. -/
def muT (xs ls : List Bool) (L : List Int) : Nat := 2 * (xs.length - cntA xs) + cntA ls + L.length
theorem muT_put {b : Nat} (hb : b < xs.length) (h : onM xs (b : Int) = false) (x : Int) : muT (xs.set b true) ls (L ++ [x]) + 1 = muT xs ls L := by
  have hc := cntA_set xs b hb
  rw [onM_nat] at h
  rw [h] at hc
  have := cntA_le (xs.set b true)
  rw [List.length_set] at this
  unfold muT
  rw [List.length_append, List.length_set]
  simp at hc ⊢
  omega
theorem muT_over {b : Nat} (hb : b < xs.length) (hb2 : b < ls.length) (h : onM xs (b : Int) = false) : muT (xs.set b true) (ls.set b true) L ≤ muT xs ls L := by
  have hc := cntA_set xs b hb
  rw [onM_nat] at h
  rw [h] at hc
  have := cntA_le (xs.set b true)
  rw [List.length_set] at this
  have h2 := cntA_set ls b hb2
  have h3 : cntA (ls.set b true) ≤ cntA ls + 1 := by rw [h2]; split <;> omega
  unfold muT
  rw [List.length_set]
  simp at hc ⊢
  omega
theorem muT_left {b : Nat} (hb : onM ls (b : Int) = true) : muT xs (ls.set b false) L + 1 = muT xs ls L := by
  have hl : b < ls.length := by have := (onM_lt hb).2; simpa using this
  rw [onM_nat] at hb
  have h1 := cntA_off ls b hl
  have h2 := cntA_pos ls b hl hb
  rw [hb] at h1
  unfold muT
  simp at h1
  omega
theorem muT_pop (x : Int) : muT xs ls L + 1 = muT xs ls (L ++ [x]) := by
  unfold muT; rw [List.length_append]; simp; omega

/-! ### The list of what is marked -/
def marksTo (xs : List Bool) (j : Nat) : List Int := ((List.range j).filter (fun i => xs[i]?.getD false)).map Int.ofNat
theorem marksTo_no {j : Nat} (h : xs[j]?.getD false = false) : marksTo xs (j + 1) = marksTo xs j := by
  unfold marksTo; rw [List.range_succ, List.filter_append]; simp [h]
theorem marksTo_yes {j : Nat} (h : xs[j]?.getD false = true) : marksTo xs (j + 1) = marksTo xs j ++ [(j : Int)] := by
  unfold marksTo; rw [List.range_succ, List.filter_append]; simp [h]
theorem marksTo_gap {a : Nat} : ∀ {b : Nat}, a ≤ b → (∀ t, a ≤ t → t < b → xs[t]?.getD false = false) → marksTo xs b = marksTo xs a
  | 0, h, _ => by obtain rfl : a = 0 := by omega
                  rfl
  | b + 1, h, g => by
    by_cases e : a = b + 1
    · subst e; rfl
    · rw [marksTo_no (g b (by omega) (by omega))]
      exact marksTo_gap (by omega) (fun t h1 h2 => g t h1 (by omega))
theorem marksTo_le (j : Nat) : (marksTo xs j).length ≤ j := by
  unfold marksTo; rw [List.length_map]
  exact Nat.le_trans (List.length_filter_le _ _) (by simp)
theorem marksTo_mem (j : Nat) (x : Int) : x ∈ marksTo xs j ↔ ∃ i : Nat, x = i ∧ i < j ∧ xs[i]?.getD false = true := by
  unfold marksTo
  rw [List.mem_map]
  constructor
  · rintro ⟨i, h, rfl⟩
    rw [List.mem_filter, List.mem_range] at h
    exact ⟨i, rfl, h.1, h.2⟩
  · rintro ⟨i, rfl, h1, h2⟩
    exact ⟨i, by rw [List.mem_filter, List.mem_range]; exact ⟨h1, h2⟩, rfl⟩
theorem marksTo_all (j : Nat) (hj : xs.length ≤ j) : marksTo xs j = marksTo xs xs.length :=
  marksTo_gap hj (fun t h1 _ => by rw [List.getElem?_eq_none h1]; rfl)
end

end Go.Proofs.YtgpidokklhjfdaaGreat

/-
  Package object: what Objects answers: a list in memory of its own.
-/
namespace Go.Proofs.YtgpidokklhjfdaaGreat
open Go.RowKit

theorem Tryz.infoObj : (Tryz.prog.info? 101).map (fun i => (i.zero, i.size, i.bytes)) = some (some (.agg #[.int .i64 0, .int .i64 0, .int .i64 0, .int .i64 0, .bool false, .slice none 0 0]), 6, 64) := by kernel_rfl

/-- An object: where it is, its head, its fields. -/
structure OM where
  a : Int
  k : Int
  c : Int
  l : Int
  f : Bool
  L : List Int
/-- One in memory: its fields lie in a row z. -/
structure OV where
  o : OM
  z : Nat
def OV.cells (v : OV) : List Value := [.int .i64 v.o.a, .int .i64 v.o.k, .int .i64 v.o.c, .int .i64 v.o.l, .bool v.o.f, .slice (some ⟨v.z, 0, none⟩) v.o.L.length v.o.L.length]
def flatO (vs : List OV) : List Value := vs.flatMap OV.cells
theorem flatO_app (vs us : List OV) : flatO (vs ++ us) = flatO vs ++ flatO us := by simp [flatO]
theorem flatO_one (v : OV) : flatO [v] = v.cells := by simp [flatO]
theorem flatO_length (vs : List OV) : (flatO vs).length = vs.length * 6 := by
  induction vs with
  | nil => rfl
  | cons c cs ih => simp [flatO, OV.cells] at *; omega
theorem flatO_get (vs : List OV) (i : Nat) (v : OV) (h : vs[i]? = some v) (t : Nat) (ht : t < 6) : (flatO vs)[i * 6 + t]? = v.cells[t]? := by
  induction vs generalizing i with
  | nil => simp at h
  | cons d vs ih =>
    have e : flatO (d :: vs) = d.cells ++ flatO vs := by simp [flatO]
    have hd : d.cells.length = 6 := rfl
    rw [e]
    cases i with
    | zero => simp at h; subst h; rw [List.getElem?_append_left (by omega)]; simp
    | succ i =>
      simp at h
      rw [List.getElem?_append_right (by omega), hd, show (i + 1) * 6 + t - 6 = i * 6 + t by omega]
      exact ih i h

/-- A list of objects that was made since w0. -/
structure ObjsAt (w0 w : World) (va : Option Addr) (n vc : Nat) (vs : List OV) : Prop where
  own : w.ownsRow w0.heap.size 101 6 (.slice va n vc) n (flatO vs)
  len : vs.length = n
  each : ∀ (i : Nat) (v : OV), vs[i]? = some v → Row w 3 v.z v.o.L ∧ w0.heap.size ≤ v.z ∧ ∀ a, va = some a → a.block ≠ v.z
theorem ObjsAt.nil (w0 w : World) : ObjsAt w0 w none 0 0 [] := ⟨World.ownsRow_nil _ _ _ _, rfl, fun i v h => by simp at h⟩
theorem ObjsAt.keep {S : List Nat} {w0 w w' : World} {va : Option Addr} {n vc : Nat} {vs : List OV} (h : ObjsAt w0 w va n vc vs) (K : Keep S w w') (hS : ∀ k, k ∈ S → k < w0.heap.size) : ObjsAt w0 w' va n vc vs := by
  refine ⟨⟨h.own.1, ?_⟩, h.len, fun i v e => ?_⟩
  · rcases h.own.2 with h1 | ⟨g, cap, cur, h1, h2, h3, h4⟩
    · exact .inl h1
    · exact .inr ⟨g, cap, cur, h1, h2, K.blk h3 (fun e => by have := hS g e; omega), h4⟩
  · obtain ⟨h1, h2, h3⟩ := h.each i v e
    exact ⟨h1.keep K (fun e => by have := hS _ e; omega), h2, h3⟩
theorem ObjsAt.added {w0 w w4 : World} {va : Option Addr} {n vc z g cap : Nat} {vs : List OV} {o : OM} {ob : Obj} (h : ObjsAt w0 w va n vc vs) (hz : Row w 3 z o.L) (hz0 : w0.heap.size ≤ z) (hza : ∀ a, va = some a → a.block ≠ z)
    (hown : w4.ownsRow w0.heap.size 101 6 (.slice (some ⟨g, 0, none⟩) (n + 1) cap) (n + 1) (flatO vs ++ OV.cells ⟨o, z⟩)) (hg : (w.alloc ob).grownBy w4 (Value.slice va n vc).ownBlock) (hat : (Value.slice va n vc).ownBlock = some g ∨ g = w.heap.size + 1) :
    ObjsAt w0 w4 (some ⟨g, 0, none⟩) (n + 1) cap (vs ++ [⟨o, z⟩]) := by
  have own : ∀ k, (Value.slice va n vc).ownBlock = some k → ∃ a, va = some a ∧ a.block = k := by
    intro k hk
    cases va with
    | none => simp [Value.ownBlock] at hk
    | some a => simp [Value.ownBlock] at hk; exact ⟨a, rfl, hk⟩
  have row : ∀ y M, Row w 3 y M → (∀ a, va = some a → a.block ≠ y) → Row w4 3 y M ∧ g ≠ y := by
    intro y M hy hne
    have hlt := hy.lt
    refine ⟨?_, fun e => ?_⟩
    · have e1 : (w.alloc ob).heap[y]? = w.heap[y]? := Below.heap_alloc _ _ _ hlt
      have : w4.heap[y]? = (w.alloc ob).heap[y]? := hg.block y (by simp; omega) (fun e => by
        obtain ⟨a, e1, e2⟩ := own y e.symm
        exact hne a e1 e2)
      show w4.heap[y]? = _
      rw [this, e1]; exact hy
    · subst e
      rcases hat with e | e
      · obtain ⟨a, e1, e2⟩ := own _ e
        exact hne a e1 e2
      · omega
  refine ⟨by rw [flatO_app, flatO_one]; exact hown, by simp [h.len], fun i v e => ?_⟩
  rcases Nat.lt_trichotomy i vs.length with hi | hi | hi
  · rw [List.getElem?_append_left hi] at e
    obtain ⟨h1, h2, h3⟩ := h.each i v e
    obtain ⟨r1, r2⟩ := row _ _ h1 h3
    exact ⟨r1, h2, fun a e => by cases e; exact r2⟩
  · subst hi
    simp at e
    subst e
    obtain ⟨r1, r2⟩ := row _ _ hz hza
    exact ⟨r1, hz0, fun a e => by cases e; exact r2⟩
  · rw [List.getElem?_eq_none (by simp; omega)] at e; cases e
theorem ObjsAt.grow {w0 w w4 : World} {va : Option Addr} {n vc : Nat} {vs : List OV} {ob : Obj} (h : ObjsAt w0 w va n vc vs) (K : Keep [] w0 w) (hg : (w.alloc ob).grownBy w4 (Value.slice va n vc).ownBlock) : Keep [] w0 w4 := by
  refine (K.trans (Keep.alloc [] w ob)).grown hg (fun k e => ?_)
  rcases h.own.2 with ⟨h1, _⟩ | ⟨g, cap, cur, h1, h2, _⟩
  · rw [h1] at e; cases e
  · rw [h1] at e; cases e; exact h2

theorem ObjsAt.far {w0 w : World} {va : Option Addr} {n vc : Nat} {vs : List OV} (h : ObjsAt w0 w va n vc vs) (a : Addr) (e : va = some a) : w0.heap.size ≤ a.block ∧ a.block < w.heap.size := by
  rcases h.own.2 with ⟨h1, _⟩ | ⟨g, cap, cur, h1, h2, h3, _⟩
  · cases h1; cases e
  · cases h1; cases e; exact ⟨h2, lt_of_block h3⟩
theorem ObjsAt.base {w0 w1 w : World} {va : Option Addr} {n vc : Nat} {vs : List OV} (h : ObjsAt w1 w va n vc vs) (hs : w0.heap.size ≤ w1.heap.size) : ObjsAt w0 w va n vc vs :=
  ⟨own_base h.own hs, h.len, fun i v e => by obtain ⟨h1, h2, h3⟩ := h.each i v e; exact ⟨h1, by omega, h3⟩⟩

/-- What the words say of the object at a. -/
def objOf (ws : List Int) (a : Int) : OM := ⟨a, wk (ws[a.toNat]?.getD 0), wc (ws[a.toNat]?.getD 0), wl (ws[a.toNat]?.getD 0), wf (ws[a.toNat]?.getD 0), wordsL ws a.toNat (wl (ws[a.toNat]?.getD 0))⟩
def objsK (kd : List PK) (ws : List Int) : List OM := (eachK kd).map (objOf ws)
theorem objsK_length (kd : List PK) (ws : List Int) : (objsK kd ws).length = (eachK kd).length := by simp [objsK]
theorem each_at9 {kd : List PK} {ws : List Int} {ds : List (Int × List Int)} (h : Fine ws kd ds) (j : Nat) (hj : j < (eachK kd).length) : ∃ (b m : Nat) (k c l : Int) (f : Bool), (eachK kd)[j]? = some (b : Int) ∧ At kd ws b b m k c l f ∧ l + 1 ≤ m ∧ objOf ws b = ⟨b, k, c, l, f, wordsL ws b l⟩ := by
  have hm : (eachK kd)[j] ∈ eachTo kd kd.length := List.getElem_mem hj
  obtain ⟨b, n, e, _, _, hf⟩ := h.wf.each_in kd.length _ hm
  obtain ⟨k, c, l, f, h1, h2, _⟩ := h.ob.head b n hf
  obtain ⟨_, _, e1, e2, e3, e4⟩ := h1.parts
  exact ⟨b, n, k, c, l, f, by rw [List.getElem?_eq_getElem hj, e], ⟨rfl, hf, h1⟩, h2, by unfold objOf; rw [Int.toNat_natCast, e1, e2, e3, e4]⟩

theorem oneCells6 (a k c l : Int) (f : Bool) (la : Option Addr) (n lc : Nat) : ∀ u ∈ [Value.int .i64 a, .int .i64 k, .int .i64 c, .int .i64 l, .bool f, .slice la n lc], u.oneCell' = true := by
  intro u hu
  simp at hu
  rcases hu with rfl | rfl | rfl | rfl | rfl | rfl <;> rfl

section
variable {w0 : World} {F0 : List Nat} {hb : Nat} {ws : List Int} {kd : List PK} {ds : List (Int × List Int)}
set_option maxHeartbeats 800000 in
theorem oobjects_nil (w : World) :
    Calls Tryz.prog 18 #[.pointer none] w fun e w' => e = .returned (.slice none 0 0) ∧ w = w' := by
  go_enter Tryz.func18, Tryz.ntmps18
  go_wp2_with fail
  go_ret
  exact ⟨rfl, rfl⟩
set_option maxRecDepth 100000 in
set_option maxHeartbeats 3200000 in
theorem oobjects (w : World) (h : Has w0 F0 (heapA hb ws kd ds) w) :
    Calls Tryz.prog 18 #[.pointer (some ⟨hb, 0, none⟩)] w fun e w' => ∃ va vc vs, e = .returned (.slice va (eachK kd).length vc) ∧ ObjsAt w w' va (eachK kd).length vc vs ∧ vs.map OV.o = objsK kd ws ∧ Keep [] w w' := by
  obtain ⟨i0, hi, hz0, hz1, hz2⟩ := info_parts Tryz.infoObj
  have hI : Hid (Tryz.prog.info? 101 = some i0 ∧ i0.zero = some (.agg #[.int .i64 0, .int .i64 0, .int .i64 0, .int .i64 0, .bool false, .slice none 0 0]) ∧ i0.size = 6 ∧ i0.bytes = 64) := ⟨hi, hz0, hz1, hz2⟩
  clear hi hz0 hz1 hz2
  obtain ⟨sb, tb, hr⟩ := h.raw
  have hfi := h.fine
  have HX := (show Hid (Has w0 F0 (heapA hb ws kd ds) w) from h)
  have HR := (show Hid (Has w0 F0 (rawA hb sb tb ws kd ds) w) from hr)
  have HF := (show Hid (Fine ws kd ds) from hfi)
  obtain ⟨c0, _⟩ := hr.cells
  have hnb : (eachK kd).length ≤ 32 * kd.length := hfi.wf.each_len kd.length
  have hn2 := hfi.wf.len2
  obtain ⟨n, hn⟩ : ∃ n, (eachK kd).length = n := ⟨_, rfl⟩
  have HN := (show Hid ((eachK kd).length = n) from hn)
  rw [hn] at hnb ⊢
  clear h hr hfi hn
  go_enter Tryz.func18, Tryz.ntmps18
  go_wp2_with (first | (go_at_call 45; refine (xeach _ HR.out HF.out.wf).mono ?_; rw [HN.out]; rintro e w1 ⟨la, lc, rfl, hIn, hla, hK1⟩))
  have HI := (show Hid (IntsAt w1 la (eachK kd)) from hIn)
  clear hIn
  go_loopw [3, 16] (fun v i wr => ∃ (j : Nat) (va : Option Addr) (vc : Nat) (vs : List OV), v = .slice va j vc ∧ i = .int .i64 j ∧ j ≤ n ∧ Hid (ObjsAt w1 wr va j vc vs) ∧ Hid (vs.map OV.o = (objsK kd ws).take j) ∧ Keep [] w1 wr) (fun _ i _ => n - (intOf i).toNat)
  case atStart => exact ⟨0, none, 0, [], rfl, rfl, by omega, ObjsAt.nil _ _, by show _ = _; simp, Keep.refl _ _⟩
  case round =>
    obtain ⟨j, va, vc, vs, rfl, rfl, hj, HO, HM, hK⟩ := hrel
    have hKw := hK1.trans hK
    by_cases hlt : j < n
    · obtain ⟨b, m, k, c, l, f, he, hA, hlm, hob⟩ := each_at9 HF.out j (by rw [HN.out]; exact hlt)
      obtain ⟨p, off, rfl, hps, hcell⟩ := HI.out.cells (by rw [HN.out]; omega)
      have hc := (hK.cell hps (by simp) (off + j)).trans (hcell j (by rw [HN.out]; exact hlt))
      rw [he] at hc
      simp only [Option.getD_some] at hc
      have HNX := (show Hid ((objsK kd ws).take (j + 1) = (objsK kd ws).take j ++ [⟨b, k, c, l, f, wordsL ws b l⟩]) from by
        show _ = _
        have : (objsK kd ws)[j]? = some ⟨b, k, c, l, f, wordsL ws b l⟩ := by unfold objsK; rw [List.getElem?_map, he, ← hob]; rfl
        rw [List.take_add_one, this]; rfl)
      obtain ⟨_, e1, e2, e3, e4, e5⟩ := hA.facts HF.out.wf
      have hbd := hA.2.2.bd
      obtain ⟨q, hq⟩ := Int.eq_ofNat_of_zero_le hbd.2.2.2.2.1
      have HQ := (show Hid (l = q) from hq)
      have hwl : b + q < ws.length := by rw [HF.out.len]; omega
      have HT := (show Hid (HeadT kd ws (b : Int) k c l f 0) from .yes b m k c l f hA)
      have HL := (show Hid ((wordsL ws b l).length = q) from by show _ = _; rw [wordsL_length, hq]; rfl)
      have hbb : b ≤ 20000 := by omega
      have hl3 : l ≤ 1023 := by omega
      clear hcell hA hq hbd he hob hlm e1 e2 e3 e4 e5
      go_wp2_with (first | (go_at_call 46; refine (ohead b k c l 0 f _ (HX.out.keep0 hKw) HT.out).mono ?_; rintro e w3 ⟨rfl, hK3⟩; have hx3 := heap_alloc_new w3 (.cells #[.int .i64 k, .int .i64 c, .int .i64 l, .bool f] 68)))
      have hK4 := hKw.trans (hK3.trans (Keep.alloc [] w3 (.cells #[.int .i64 k, .int .i64 c, .int .i64 l, .bool f] 68)))
      have hK4b := hK.trans (hK3.trans (Keep.alloc [] w3 (.cells #[.int .i64 k, .int .i64 c, .int .i64 l, .bool f] 68)))
      have hO4 := HO.out.keep (hK3.trans (Keep.alloc [] w3 (.cells #[.int .i64 k, .int .i64 c, .int .i64 l, .bool f] 68))) (by simp)
      generalize w3.alloc (.cells #[.int .i64 k, .int .i64 c, .int .i64 l, .bool f] 68) = w4 at *
      generalize w3.heap.size = bx at *
      obtain ⟨g0, g1, g2, g3⟩ := four_cells hx3
      have hx5 := (Keep.drew [] w4).blk hx3 (by simp)
      obtain ⟨d0, d1, d2, d3⟩ := four_cells hx5
      have HO5 := (show Hid (ObjsAt w1 w4.drew va j vc vs) from hO4.keep (Keep.drew [] w4) (by simp))
      have HK5 := (show Hid (Keep [] w w4.drew) from hK4.trans (Keep.drew [] w4))
      have HK5b := (show Hid (Keep [] w1 w4.drew) from hK4b.trans (Keep.drew [] w4))
      clear hO4 hK3 HO hc
      go_region_law (first | (refine step_append_lies _ rfl (.tmp 26) (.tmp 35) 51 rfl w1.heap.size 101 i0 (.agg #[.int .i64 0, .int .i64 0, .int .i64 0, .int .i64 0, .bool false, .slice none 0 0]) 6 64 Tryz.underlying51 hI.out.1 hI.out.2.1 hI.out.2.2.1 hI.out.2.2.2 rfl (by decide) (.slice va j vc) j (flatO vs) rfl (HO6.out.keep (Keep.alloc [] w6 _) (by simp)).own ⟨w6.heap.size, 0, none⟩ 1 1 [.int .i64 b, .int .i64 k, .int .i64 c, .int .i64 l, .bool f, .slice (some ⟨z, 0, none⟩) q q] rfl rfl (World.news_of_block (heap_alloc_new w6 _)) (oneCells6 b k c l f _ q q) (by omega) (by unfold maxLen; omega) (by omega) (by have := HK6.out.size; simp; omega) (w6.heap.size + 1) (by simp) ?_; intro g cap w7 hown hgrow hat hltg; have HADD := (show Hid (ObjsAt w1 w7 (some ⟨g, 0, none⟩) (j + 1) cap (vs ++ [⟨⟨b, k, c, l, f, wordsL ws b l⟩, z⟩]) ∧ Keep [] w1 w7) from ⟨HO6.out.added (o := ⟨b, k, c, l, f, wordsL ws b l⟩) HZ.out.1 HZ.out.2.1 HZ.out.2.2 (by unfold OV.cells; rw [HL.out]; exact hown) hgrow hat, HO6.out.grow HK6.out hgrow⟩); clear hown hgrow hat hltg) | (go_simp; refine (owords b q l _ (HR.out.keep0 HK5.out) HQ.out hl3 hwl hbb).mono ?_; rintro e w6 ⟨z, rfl, hRz, hK6, hzz⟩; have hx6 := hK6.blk hx5 (by simp); obtain ⟨p0, p1, p2, p3⟩ := four_cells hx6; have HO6 := (show Hid (ObjsAt w1 w6 va j vc vs) from HO5.out.keep hK6 (by simp)); have HK6 := (show Hid (Keep [] w1 w6) from HK5b.out.trans hK6); have HZ := (show Hid (Row w6 3 z (wordsL ws b l) ∧ w1.heap.size ≤ z ∧ ∀ a, va = some a → a.block ≠ z) from ⟨hRz, by have := HK5b.out.size; omega, fun a e => by have := HO5.out.far a e; omega⟩); clear hRz hzz))
      all_goals (go_wp2_with fail)
      all_goals go_roundw
      all_goals first
        | exact ⟨j + 1, _, _, _, rfl, by go_num, by omega, HADD.out.1, (by show _ = _; rw [HNX.out, List.map_append, HM.out]; rfl), HADD.out.2⟩
        | (simp [intOf]; omega)
    · obtain rfl : j = n := by omega
      have HMM := (show Hid (vs.map OV.o = objsK kd ws) from by
        show _ = _
        rw [HM.out, List.take_of_length_le (by rw [objsK_length, HN.out]; omega)])
      go_wp2_with fail
      go_ret
      exact ⟨va, vc, vs, rfl, HO.out.base hK1.size, HMM.out, hKw⟩
end

end Go.Proofs.YtgpidokklhjfdaaGreat

/-
  Room: where all pages from one on are free a block is had, and those behind it stay free. Plain facts.
-/
namespace Go.Proofs.YtgpidokklhjfdaaGreat
open Go.RowKit

def FreeFrom (kd : List PK) (s : Nat) : Prop := ∀ t, s ≤ t → kat kd t = .free
theorem FreeFrom.fresh (n : Nat) (h : 1 ≤ n) : FreeFrom (freshK n) 1 := fun t ht => by rw [freshK_at n t h, if_neg (by omega)]
theorem FreeFrom.mono {kd : List PK} {s t : Nat} (h : FreeFrom kd s) (hs : s ≤ t) : FreeFrom kd t := fun u hu => h u (by omega)
theorem run_low {kd : List PK} {s k : Nat} {p : Int} (hk : 1 ≤ k) (hf : FreeFrom kd s) (hs : s + k ≤ kd.length) (h : runR (takenL kd) 0 k = p) : ∃ q : Nat, p = q ∧ q ≤ s := by
  have hc : Clear (takenL kd) s k := ⟨by rw [takenL_length]; omega, fun t a b => by rw [takenL_get, hf t a]; rfl⟩
  rcases runR_spec (takenL kd) k hk _ 0 rfl with ⟨_, h1⟩ | ⟨j, h1, h2⟩
  · exact absurd hc (h1 s (by omega))
  · refine ⟨j, by rw [← h, h1], ?_⟩
    rcases Nat.lt_or_ge s j with h3 | h3
    · exact absurd hc (h2.2.2 s (by omega) h3)
    · exact h3
theorem alloc_from {kd : List PK} {n : Int} {s K : Nat} (hn : 1 ≤ n ∧ n ≤ 1024) (hp : pagesI n ≤ K) (hK : 1 ≤ K) (hs : s + K ≤ kd.length) (hf : FreeFrom kd s) : ∃ a kd', AllocR kd n (some (a, kd')) ∧ FreeFrom kd' (s + K) := by
  obtain ⟨r, hr⟩ := alloc_ex kd n (by have := room_ge n hn.1 hn.2; omega)
  cases r with
  | none =>
    exfalso
    cases hr with
    | full c e1 e2 e3 => obtain ⟨q, e, _⟩ := run_low (by omega) hf (by omega) e3; omega
    | over k e1 e2 e3 e4 => obtain ⟨q, e, _⟩ := run_low e3 hf (by omega) e4; omega
  | some o =>
    obtain ⟨a, kd'⟩ := o
    refine ⟨a, kd', hr, fun t ht => ?_⟩
    cases hr with
    | old c p i xs e1 e2 e3 e4 e5 =>
      rw [kat_set_other _ _ _ _ (fun e => by subst e; rw [hf t (by omega)] at e3; cases e3)]
      exact hf t (by omega)
    | new c p e1 e2 e3 =>
      obtain ⟨q, e, h⟩ := run_low (by omega) hf (by omega) e3
      rw [kat_set_other _ _ _ _ (by omega)]
      exact hf t (by omega)
    | large k p e1 e2 e3 e4 =>
      obtain ⟨q, e, h⟩ := run_low e3 hf (by omega) e4
      rw [putParts_at _ _ _ _ (by omega), if_neg (by omega)]
      exact hf t (by omega)
/-- An object is made. -/
theorem make_from {kd : List PK} {ds : List (Int × List Int)} {k c l : Int} {s K : Nat} (ws : List Int) (hw : WF kd) (hm : mayH k c l false = true) (hF : FitsT ds k c l 0) (hp : pagesI (l + 1) ≤ K) (hK : 1 ≤ K) (hs : s + K ≤ kd.length) (hf : FreeFrom kd s) :
    ∃ (a b : Nat) (kd' : List PK), MakeT kd ws ds k c l false a 0 ((fill0 ws a b).set a (putH k c l false)) kd' ∧ AllocR kd (l + 1) (some (a, kd')) ∧ blockI (l + 1) = b ∧ FreeFrom kd' (s + K) := by
  have hb := mayH_bd hm
  obtain ⟨a, kd', h1, h2⟩ := alloc_from (kd := kd) (n := l + 1) (s := s) (K := K) (by omega) hp hK hs hf
  obtain ⟨b, hb', _⟩ := h1.spec hw
  exact ⟨a, b, kd', .yes a b kd' hm rfl hF h1 hb', h1, hb', h2⟩
theorem may_data (l : Int) (h1 : 0 ≤ l) (h2 : l ≤ 1023) : mayH 3 0 l false = true := by
  rw [mayH_23 _ _ _ (by omega), inB_yes (by omega) (by omega), inB_yes h1 h2]; rfl
theorem may_refs (l : Int) (h1 : 0 ≤ l) (h2 : l ≤ 1023) : mayH 2 0 l false = true := by
  rw [mayH_23 _ _ _ (by omega), inB_yes (by omega) (by omega), inB_yes h1 h2]; rfl
/-- What there is, behind an object that was made. -/
theorem MakeT.at {kd kd' : List PK} {ws : List Int} {k c l : Int} {a b : Nat} (hw : WF kd) (hl : ws.length = 64 * kd.length) (hm : mayH k c l false = true) (hr : AllocR kd (l + 1) (some (a, kd'))) (hb : blockI (l + 1) = b) : At kd' ((fill0 ws a b).set a (putH k c l false)) a a b k c l false := by
  obtain ⟨b', hb', h1, h2, h3, h4, h5, h6, h7⟩ := hr.spec hw
  obtain rfl : b = b' := by rw [hb] at hb'; omega
  refine ⟨rfl, by rw [h7, if_pos (by omega)], ?_⟩
  rw [set_get_same _ _ _ (by rw [fill0_length _ _ _ (by omega)]; omega)]
  exact ⟨hm, rfl⟩
/-- What there was is as it was. -/
theorem At.made {kd kd' : List PK} {ws : List Int} {n x : Int} {a b p m : Nat} {k c l : Int} {f : Bool} (h : At kd ws p p m k c l f) (hw : WF kd) (hl : ws.length = 64 * kd.length) (hr : AllocR kd n (some (a, kd'))) (hb : blockI n = b) : At kd' ((fill0 ws a b).set a x) p p m k c l f ∧ (p + m ≤ a ∨ a + b ≤ p) := by
  obtain ⟨b', hb', h1, h2, h3, h4, h5, h6, h7⟩ := hr.spec hw
  obtain rfl : b = b' := by rw [hb] at hb'; omega
  obtain ⟨_, h8, h9⟩ := h
  obtain ⟨g1, g2, g3, g4, g5, g6⟩ := hw.found h8
  have hd : p + m ≤ a ∨ a + b ≤ p := by
    rcases Nat.lt_or_ge a (p + m) with e1 | e1
    · rcases Nat.lt_or_ge p (a + b) with e2 | e2
      · have := g6 (max a p) (by omega) (by omega)
        rw [h6 (max a p) (by omega) (by omega)] at this
        cases this
      · exact .inr e2
    · exact .inl e1
  refine ⟨⟨rfl, by rw [h7, if_neg (by omega)]; exact h8, ?_⟩, hd⟩
  rw [set_get_other _ _ _ _ (by omega), fill0_get _ _ _ _ (by omega), if_neg (by omega)]
  exact h9

end Go.Proofs.YtgpidokklhjfdaaGreat

/-
  All blocks of a space, by address: each once, rising; one more where one is made, one less where one is freed. Plain facts.
-/
namespace Go.Proofs.YtgpidokklhjfdaaGreat
open Go.RowKit

theorem sz_pos (c : Nat) : 0 < sz c := Nat.pos_of_ne_zero (by unfold sz; exact Nat.pos_iff_ne_zero.1 (Nat.two_pow_pos _))
theorem startsTo_rises (p c : Nat) (xs : List Bool) (j : Nat) : (startsTo p c xs j).Pairwise (· < ·) := by
  unfold startsTo
  rw [List.pairwise_map]
  refine List.Pairwise.filter _ ?_
  refine (List.pairwise_lt_range).imp (fun {a b} h => ?_)
  have := Nat.mul_lt_mul_of_pos_right h (sz_pos c)
  omega
theorem startsK_rises (p : Nat) (x : PK) : (startsK p x).Pairwise (· < ·) := by
  unfold startsK
  split
  · exact startsTo_rises _ _ _ _
  · simp
  · simp
theorem WF.each_rises {kd : List PK} (h : WF kd) (m : Nat) : (eachTo kd m).Pairwise (· < ·) := by
  induction m with
  | zero => simp [eachTo]
  | succ m ih =>
    rw [eachTo_succ, List.pairwise_append]
    refine ⟨ih, startsK_rises _ _, fun x hx y hy => ?_⟩
    obtain ⟨a, n, rfl, h1, _⟩ := h.each_in m x hx
    obtain ⟨b, n', rfl, h2, _⟩ := h.starts_in m y hy
    omega
theorem eachTo_of {kd : List PK} {m p : Nat} {x : Int} (hp : p < m) (h : x ∈ startsK p (kat kd p)) : x ∈ eachTo kd m := by
  unfold eachTo
  rw [List.mem_flatMap]
  exact ⟨p, by simpa using hp, h⟩
theorem startsTo_of {p c : Nat} {xs : List Bool} {j i : Nat} (hi : i < j) (h : xs[i]?.getD false = true) : ((64 * p + i * sz c : Nat) : Int) ∈ startsTo p c xs j := by
  unfold startsTo
  rw [List.mem_map]
  exact ⟨i, by rw [List.mem_filter]; exact ⟨by simpa using hi, h⟩, rfl⟩
theorem WF.each_of {kd : List PK} (h : WF kd) {a n : Nat} (hf : findN kd a = some (a, n)) : (a : Int) ∈ eachK kd := by
  cases hk : kat kd (a / 64) with
  | zero => rw [find_zero kd a hk] at hf; cases hf
  | free => rw [find_free kd a hk] at hf; cases hf
  | small c xs =>
    obtain ⟨hc, hl, _⟩ := h.small _ c xs hk
    rw [find_small kd a c xs hk] at hf
    split at hf
    · rename_i hx
      injection hf with hf
      injection hf with h1 h2
      obtain ⟨y1, y2, y3, y4⟩ := sz_word c a hc
      have e : a = 64 * (a / 64) + a % 64 / sz c * sz c := by omega
      refine eachTo_of (p := a / 64) (kat_lt _ _ (by rw [hk]; simp)) ?_
      rw [hk]
      show (a : Int) ∈ startsTo _ _ _ _
      have := startsTo_of (p := a / 64) (c := c) (xs := xs) (j := xs.length) (i := a % 64 / sz c) (by rw [hl]; exact y2) hx
      rw [← e] at this
      exact this
    · cases hf
  | part j k =>
    rw [find_part kd a j k hk] at hf
    injection hf with hf
    injection hf with h1 h2
    have hp0 := h.part0 hk
    obtain rfl : j = 0 := by omega
    refine eachTo_of (p := a / 64) (kat_lt _ _ (by rw [hk]; simp)) ?_
    rw [hk]
    show (a : Int) ∈ [((64 * (a / 64) : Nat) : Int)]
    simp; omega
theorem WF.each_iff {kd : List PK} (h : WF kd) (x : Int) : x ∈ eachK kd ↔ ∃ a n : Nat, x = a ∧ findN kd a = some (a, n) := by
  constructor
  · intro hx
    obtain ⟨a, n, h1, _, _, h2⟩ := h.each_in _ x hx
    exact ⟨a, n, h1, h2⟩
  · rintro ⟨a, n, rfl, h2⟩
    exact h.each_of h2
theorem nodup_of_rises {L : List Int} (h : L.Pairwise (· < ·)) : L.Nodup := h.imp (fun {a b} h e => by omega)
theorem WF.each_nodup {kd : List PK} (h : WF kd) : (eachK kd).Nodup := nodup_of_rises (h.each_rises _)
theorem AllocR.count {kd kd' : List PK} {n : Int} {a : Nat} (h : WF kd) (hr : AllocR kd n (some (a, kd'))) : (eachK kd').length = (eachK kd).length + 1 := by
  obtain ⟨b, hb, h1, h2, h3, h4, h5, h6, h7⟩ := hr.spec h
  have hp : (eachK kd').Perm ((a : Int) :: eachK kd) := by
    refine (List.perm_ext_iff_of_nodup h2.each_nodup ?_).2 (fun x => ?_)
    · rw [List.nodup_cons]
      refine ⟨fun e => ?_, h.each_nodup⟩
      obtain ⟨c, m, e1, e2⟩ := (h.each_iff _).1 e
      obtain rfl : c = a := by omega
      rw [h6 c (by omega) (by omega)] at e2
      cases e2
    · rw [h2.each_iff, List.mem_cons, h.each_iff]
      constructor
      · rintro ⟨c, m, rfl, e⟩
        rw [h7] at e
        split at e
        · cases e; exact .inl rfl
        · exact .inr ⟨c, m, rfl, e⟩
      · rintro (rfl | ⟨c, m, rfl, e⟩)
        · exact ⟨a, b, rfl, by rw [h7, if_pos (by omega)]⟩
        · refine ⟨c, m, rfl, ?_⟩
          rw [h7, if_neg ?_]
          · exact e
          · intro g; rw [h6 c g.1 g.2] at e; cases e
  rw [hp.length_eq]; rfl
/-- Rising, place by place. -/
theorem WF.each_lt {kd : List PK} (h : WF kd) {i j : Nat} (hij : i < j) (hj : j < (eachK kd).length) : (eachK kd)[i]?.getD 0 < (eachK kd)[j]?.getD 0 := by
  have := List.pairwise_iff_getElem.1 (h.each_rises kd.length) i j (show i < (eachTo kd kd.length).length by unfold eachK at hj; omega) hj hij
  have hi : i < (eachK kd).length := by omega
  rw [List.getElem?_eq_getElem hi, List.getElem?_eq_getElem hj]
  exact this

end Go.Proofs.YtgpidokklhjfdaaGreat

/-
  The builtin append of many integers onto a list that is one's own, and has room behind it; such a list, cut. It speaks of no program.
-/
namespace Go.Proofs.YtgpidokklhjfdaaGreat
open Go.RowKit

theorem cells_put (g : Nat) (t : TypeId) : ∀ (vs : List Value) (o : Nat) (w : World) (cur : Array Value), w.heap[g]? = some (.cells cur t (0, 0)) → ∃ cur', (w.setCells g o vs).heap[g]? = some (.cells cur' t (0, 0)) ∧ cur'.size = cur.size ∧ (∀ k, k < o → cur'[k]? = cur[k]?) ∧ ∀ k, k < vs.length → o + k < cur.size → cur'[o + k]? = vs[k]?
  | [], o, w, cur, h => ⟨cur, h, rfl, fun _ _ => rfl, fun k hk => by simp at hk⟩
  | v :: vs, o, w, cur, h => by
    obtain ⟨cur', e1, e2, e3, e4⟩ := cells_put g t vs (o + 1) (w.setCell ⟨g, o, none⟩ v) _ (heap_setCell_same w g o cur t v h)
    refine ⟨cur', e1, by rw [e2]; simp, fun k hk => ?_, fun k hk hs => ?_⟩
    · rw [e3 k (by omega), Array.getElem?_setIfInBounds_ne (by omega)]
    · rcases k with _ | k
      · rw [Nat.add_zero] at hs ⊢
        rw [e3 o (by omega), Array.getElem?_setIfInBounds_self_of_lt hs]; rfl
      · rw [show o + (k + 1) = o + 1 + k by omega, e4 k (by simpa using hk) (by simp; omega)]; rfl
theorem keep_cells (g : Nat) : ∀ (vs : List Value) (o : Nat) (w : World), Keep [g] w (w.setCells g o vs)
  | [], _, w => Keep.refl _ _
  | v :: vs, o, w => (Keep.setCell (S := [g]) w (a := ⟨g, o, none⟩) v (by simp)).trans (keep_cells g vs (o + 1) _)
theorem IsMid.capR {w : World} {t : TypeId} {la : Option Addr} {n c : Nat} {L : List Int} (h : IsMid w t (.slice la n c) L) : c ≤ maxLen := by
  rcases h with ⟨e, _⟩ | ⟨_, _, _, _, e, _, _, e3, _⟩
  · cases e; exact Nat.zero_le _
  · cases e; exact e3
theorem IsMid.le {w : World} {t : TypeId} {la : Option Addr} {n c : Nat} {L : List Int} (h : IsMid w t (.slice la n c) L) : L.length = n ∧ n ≤ c := by
  rcases h with ⟨e, rfl⟩ | ⟨_, _, _, _, e, _, e2, _⟩
  · cases e; exact ⟨rfl, Nat.le_refl _⟩
  · cases e; exact ⟨rfl, e2⟩
theorem IsMid.some {w : World} {t : TypeId} {la : Option Addr} {n c : Nat} {L : List Int} (h : IsMid w t (.slice la n c) L) (h0 : 0 < n) : ∃ g o, la = some ⟨g, o, none⟩ := by
  rcases h with ⟨e, rfl⟩ | ⟨g, o, _, _, e, _⟩
  · cases e; omega
  · cases e; exact ⟨g, o, rfl⟩
theorem mid_cells {w : World} {t : TypeId} {g o n cap : Nat} {L : List Int} (h : IsMid w t (.slice (some ⟨g, o, none⟩) n cap) L) {i : Nat} (hi : i < n) : w.cell? ⟨g, o + i, none⟩ = some (.int .i64 (L[i]?.getD 0)) ∧ w.frozen? ⟨g, o + i, none⟩ = false := by
  rcases h with ⟨h, _⟩ | ⟨g', o', cap', cur, h1, h2, h3, h4, h5, h6⟩
  · cases h
  · cases h1
    exact ⟨by simp [World.cell?, h2, h6 i hi], by simp [World.frozen?, h2]⟩
/-- One place of a list of one's own is put. -/
theorem mid_set {w : World} {t : TypeId} {g o n cap : Nat} {L : List Int} (h : IsMid w t (.slice (some ⟨g, o, none⟩) n cap) L) {i : Nat} (hi : i < n) (x : Int) : IsMid (w.setCell ⟨g, o + i, none⟩ (.int .i64 x)) t (.slice (some ⟨g, o, none⟩) n cap) (L.set i x) := by
  rcases h with ⟨h, _⟩ | ⟨g', o', cap', cur, h1, h2, h3, h4, h5, h6⟩
  · cases h
  · cases h1
    have hc : o + i < cur.size := by omega
    have hset := heap_setCell_same w g (o + i) cur t (.int .i64 x) h2
    refine .inr ⟨g, o, cap, cur.setIfInBounds (o + i) (.int .i64 x), by simp, hset, by simpa using h3, h4, by simpa using h5, fun j hj => ?_⟩
    rw [List.length_set] at hj
    by_cases e : j = i
    · subst e
      rw [Array.getElem?_setIfInBounds_self_of_lt hc]; simp [hi]
    · rw [Array.getElem?_setIfInBounds_ne (by omega), h6 j hj, List.getElem?_set_ne (by omega)]
/-- A list of one's own, cut: what lies behind the cut may be anything. -/
theorem mid_clear {w : World} {t : TypeId} {g o n cap : Nat} {L : List Int} (h : IsMid w t (.slice (some ⟨g, o, none⟩) n cap) L) {i : Nat} (hi : i ≤ n) (vs : List Value) : IsMid (w.setCells g (o + i) vs) t (.slice (some ⟨g, o, none⟩) i cap) (L.take i) := by
  rcases h with ⟨h, _⟩ | ⟨g', o', cap', cur, h1, h2, h3, h4, h5, h6⟩
  · cases h
  · cases h1
    obtain ⟨cur', e1, e2, e3, _⟩ := cells_put g t vs (o + i) w cur h2
    refine .inr ⟨g, o, cap, cur', by rw [List.length_take, Nat.min_eq_left hi], e1, by rw [List.length_take]; omega, h4, by rw [e2]; exact h5, fun j hj => ?_⟩
    rw [List.length_take] at hj
    rw [e3 _ (by omega), h6 j (by omega), List.getElem?_take, if_pos (by omega)]
theorem IsMid.cut {w : World} {t : TypeId} {la : Option Addr} {n c : Nat} {L : List Int} (h : IsMid w t (.slice la n c) L) {i : Nat} (hi : i ≤ n) : IsMid w t (.slice la i c) (L.take i) := by
  rcases h with ⟨h, rfl⟩ | ⟨g, o, cap, cur, h1, h2⟩
  · cases h
    obtain rfl : i = 0 := by omega
    exact .inl ⟨rfl, rfl⟩
  · cases h1
    exact mid_clear (L := L) (.inr ⟨g, o, _, cur, rfl, h2⟩) hi []
theorem midA_cut {t : TypeId} {la : Option Addr} {n c i : Nat} {L : List Int} {w : World} {F : List Nat} (h : (midA t (.slice la n c) L).at' w F) (hi : i ≤ n) : (midA t (.slice la i c) (L.take i)).at' w F :=
  ⟨h.1.trans (by cases la <;> rfl), IsMid.cut h.2 hi⟩
/-- What append of many integers comes to. -/
theorem run_append_mids {P : Program} (w : World) (t ty e : TypeId) (i : TypeInfo) (ht : P.underlying t = some (.slice e)) (hi : P.info? e = some i ∧ i.zero = some (.int .i64 0) ∧ i.size = 1 ∧ i.bytes = 8)
    (v : Value) (L : List Int) (hv : IsMid w e v L) (xa : Option Addr) (m c : Nat) (M : List Int) (hM : IntsAt w xa M) (hm : M.length = m) (hl : L.length + m ≤ 1000000) :
    ∃ v' w', (Builtin.append_ #[t, t] ty #[v, .slice xa m c]).run P w = .ok v' w' ∧ IsMid w' e v' (L ++ M) ∧ Keep v.ownBlock.toList w w' ∧ ∀ k, v'.ownBlock = some k → v.ownBlock = some k ∨ w.heap.size ≤ k := by
  cases xa with
  | none =>
    have h0 : M = [] := by
      rcases Nat.eq_zero_or_pos M.length with h0 | h0
      · exact List.length_eq_zero_iff.1 h0
      · obtain ⟨_, _, e, _⟩ := hM.cells h0; cases e
    subst h0
    subst hm
    refine ⟨v, w, ?_, by rw [List.append_nil]; exact hv, Keep.refl _ _, fun k e => .inl e⟩
    rcases hv with ⟨rfl, _⟩ | ⟨g, o, cap, cur, rfl, _, hnc, _⟩
    · simp [Builtin.append_, run_underlying ht, sizeOf, typeInfo, hi.1, Builtin.lenOf, Builtin.firstCells]
    · simp [Builtin.append_, run_underlying ht, sizeOf, typeInfo, hi.1, Builtin.lenOf, Builtin.firstCells, hnc, storeCells]
  | some ad =>
    obtain ⟨h1, h2, h3, h4⟩ := hi
    have hnews : ∀ j u, (ints M)[j]? = some u → w.cell? (ad.add j) = some u := by
      intro j u hu
      have hj : j < M.length := by
        rcases Nat.lt_or_ge j M.length with hj | hj
        · exact hj
        · rw [List.getElem?_eq_none (by rw [ints_length]; exact hj)] at hu; cases hu
      obtain ⟨b, off, e1, _, hcell⟩ := hM.cells (by omega)
      cases e1
      rw [ints_get M j hj] at hu
      rw [Go.WideShapes.add_plain, hcell j hj]; exact hu
    have hlen : (ints M).length = m * 1 := by rw [ints_length]; omega
    rcases hv with ⟨rfl, rfl⟩ | ⟨g, o, cap, cur, rfl, hg, hlc, hcm, hsz, hcur⟩
    · obtain ⟨v', w', hrun, hown, hgr, _⟩ := run_append_own (P := P) w w.heap.size t ty e i (.int .i64 0) 1 8 ht h1 h2 h3 h4 rfl (by decide) (.slice none 0 0) 0 [] (World.ownsRow_nil w _ e 1) ad m c (ints M) hlen hnews (ints_one _) (by unfold maxLen; simp at hl; omega) (by simp at hl; omega) (Nat.le_refl _)
      rw [show ([] : List Value) ++ ints M = ints ([] ++ M) from rfl] at hown
      refine ⟨v', w', hrun, own_mid hown, Keep.ofGrown hgr, fun k hk => .inr (own_block hown k hk)⟩
    · by_cases hroom : L.length + m ≤ cap
      · obtain ⟨cur', e1, e2, e3, e4⟩ := cells_put g e (ints M) (o + L.length) w cur hg
        refine ⟨_, _, run_append_room_cells (P := P) w t ty e i ht h1 g o L.length cap ad m c (ints M) (by rw [h3]; exact hlen) hnews (ints_one _) hroom ?_ ?_, ?_, ?_, ?_⟩
        · intro j hj
          rw [hlen] at hj
          have : o + L.length + j < cur.size := by omega
          rw [h3, Nat.mul_one]
          simp [World.cell?, hg, this]
        · intro j hj
          simp [World.frozen?, hg]
        · refine .inr ⟨g, o, cap, cur', by rw [List.length_append, hm], by rw [h3, Nat.mul_one]; exact e1, by rw [List.length_append]; omega, hcm, by rw [e2]; exact hsz, fun j hj => ?_⟩
          rw [List.length_append] at hj
          by_cases hjl : j < L.length
          · rw [e3 _ (by omega), hcur j hjl, List.getElem?_append_left hjl]
          · have := e4 (j - L.length) (by rw [ints_length]; omega) (by omega)
            rw [show o + L.length + (j - L.length) = o + j by omega] at this
            rw [this, ints_get M _ (by omega), List.getElem?_append_right (by omega)]
        · rw [h3, Nat.mul_one]; exact keep_cells g _ _ _
        · intro k hk; exact .inl (by simpa [Value.ownBlock] using hk)
      · obtain ⟨v', w', hrun, hown, hgr⟩ := run_append_arg_grows (P := P) w t ty e i (.int .i64 0) 1 8 ht h1 h2 h3 h4 rfl (by decide) ⟨g, o, none⟩ L.length cap (ints L) (by rw [ints_length, Nat.mul_one]) (by
          intro j u hu
          have hj : j < L.length := by
            rcases Nat.lt_or_ge j L.length with hj | hj
            · exact hj
            · rw [List.getElem?_eq_none (by rw [ints_length]; exact hj)] at hu; cases hu
          rw [ints_get L j hj] at hu
          rw [Addr.add_lit]
          simp [World.cell?, hg, hcur j hj]
          exact Option.some.inj hu) ad m c (ints M) hlen hnews (by omega) (by unfold maxLen; omega) (by omega)
        rw [ints_app] at hown
        refine ⟨v', w', hrun, own_mid hown, (Keep.ofGrown hgr).mono (by simp), fun k hk => .inr (own_block hown k hk)⟩
/-- For the walk. -/
theorem wpList_append_mids {P : Program} (w : World) {ops : Array Oper} {rest : List Oper} {o : Oper} {a : Act} {Q : Exit → Act → World → Prop} (hgd : o.guard = none) (s x : Operand) (t : TypeId)
    (ho : o.op = .call { callee := .builtin .append, args := #[s, x], argTypes := #[t, t] }) (e : TypeId) (i : TypeInfo) (ht : P.underlying t = some (.slice e)) (hi : P.info? e = some i ∧ i.zero = some (.int .i64 0) ∧ i.size = 1 ∧ i.bytes = 8)
    (v : Value) (L : List Int) (hs : a.eval s = v) (hv : IsMid w e v L) (xa : Option Addr) (m c : Nat) (M : List Int) (hx : a.eval x = .slice xa m c) (hM : IntsAt w xa M) (hm : M.length = m) (hl : L.length + m ≤ 1000000)
    (h : ∀ v' w', IsMid w' e v' (L ++ M) → Keep v.ownBlock.toList w w' → (∀ k, v'.ownBlock = some k → v.ownBlock = some k ∨ w.heap.size ≤ k) → wpList P ops Q rest (a.put o.dst v') w') : wpList P ops Q (o :: rest) a w := by
  refine wpList_plain hgd fun K hK' => ?_
  obtain ⟨v', w', hrun, r1, r2, r3⟩ := run_append_mids (P := P) w t o.type e i ht hi v L hv xa m c M hM hm hl
  unfold Oper.wp
  simp [execOp, ho, resolve, invoke, builtin, hs, hx, hrun, Result.andThen]
  exact hK' _ _ (h v' w' r1 r2 r3)
/-- At a step of a region that draws. -/
theorem step_append_mids {P : Program} (w : World) {ops : Array Oper} {o : Oper} {a : Act} {K : Act → World → Prop} {Q : Exit → Act → World → Prop} {E : Prop} (hgd : o.guard = none) (s x : Operand) (t : TypeId)
    (ho : o.op = .call { callee := .builtin .append, args := #[s, x], argTypes := #[t, t] }) (e : TypeId) (i : TypeInfo) (ht : P.underlying t = some (.slice e)) (hi : P.info? e = some i ∧ i.zero = some (.int .i64 0) ∧ i.size = 1 ∧ i.bytes = 8)
    (v : Value) (L : List Int) (hs : a.eval s = v) (hv : IsMid w e v L) (xa : Option Addr) (m c : Nat) (M : List Int) (hx : a.eval x = .slice xa m c) (hM : IntsAt w xa M) (hm : M.length = m) (hl : L.length + m ≤ 1000000)
    (h : ∀ v' w', IsMid w' e v' (L ++ M) → Keep v.ownBlock.toList w w' → (∀ k, v'.ownBlock = some k → v.ownBlock = some k ∨ w.heap.size ≤ k) → K (a.put o.dst v') w') :
    if Region.wanted o (yielded ops a.tmps) = true then Oper.wp P o a w K Q else E := by
  have hw : Region.wanted o (yielded ops a.tmps) = true := by simp [Region.wanted, hgd]
  rw [if_pos hw]
  obtain ⟨v', w', hrun, r1, r2, r3⟩ := run_append_mids (P := P) w t o.type e i ht hi v L hv xa m c M hM hm hl
  unfold Oper.wp
  simp [execOp, ho, resolve, invoke, builtin, hs, hx, hrun, Result.andThen]
  exact h v' w' r1 r2 r3

/-- A list is another one. -/
theorem Has.midTurn {w0 w w1 : World} {F0 : List Nat} {A : Asn} {t : TypeId} {va va' : Value} {L L' : List Int} (h : Has w0 F0 (A.star (midA t va L)) w) (K : Keep va.ownBlock.toList w w1) (hm : IsMid w1 t va' L') (hg : ∀ k, va'.ownBlock = some k → va.ownBlock = some k ∨ w.heap.size ≤ k) :
    Has w0 F0 (A.star (midA t va' L')) w1 :=
  (Has.left (A' := midA t va' L') h.comm (fun F hF => ⟨va'.ownBlock.toList, ⟨rfl, hm⟩, by rw [hF.1]; exact K, fun k e => by
    rw [hF.1]
    rcases hg k (by simpa using e) with g | g
    · exact .inl (by simp [g])
    · exact .inr g⟩)).comm

end Go.Proofs.YtgpidokklhjfdaaGreat

/-
  A list of bytes, opened once for all: what each element holds.
-/
namespace Go.Proofs.YtgpidokklhjfdaaGreat
open Go.ChangeShapes Go.WideShapes Go.ChangeAt Go.RowKit

theorem lt_of_cell' {w : World} {b o : Nat} {v : Value} (h : w.cell? ⟨b, o, none⟩ = some v) : b < w.heap.size := by
  rcases Nat.lt_or_ge b w.heap.size with h' | h'
  · exact h'
  · simp [World.cell?, Array.getElem?_eq_none h'] at h

section
variable {H : Type} {enc : TypeId × Value → H} {P : Program} {w : World} {base : Nat} {spare : Nat → Bool} {held : Bool}

theorem open_u8s {t e : TypeId} {fuel len cap : Nat} {ao : Option Addr} {x : DataW H × List MemPlace} (ht : P.underlying t = some (.slice e)) (he : P.underlying e = some (.int .u8))
    (ce : P.cellsOf e = 1) (h : DataW.trod enc P w base spare held fuel t [.slice ao len cap] = some x) :
    len ≤ 9223372036854775807 ∧ ∃ A, U8At w ao len A := by
  rcases Go.Deep.open_slice1 ht ce h with ⟨h0, _⟩ | ⟨a, len', cap', m, n, V, D, Pl, hcs, hb, hl, hm, hmm, _, hx⟩
  · simp at h0
    obtain ⟨rfl, rfl, rfl⟩ := h0
    exact ⟨by omega, fun _ => 0, fun h => by omega, by simp⟩
  · simp at hcs
    obtain ⟨rfl, rfl, rfl⟩ := hcs
    unfold maxLen at hm
    refine ⟨by omega, ?_⟩
    have hlm : len ≤ m := by rw [hmm]; split <;> omega
    have each : ∀ i, i < len → ∃ z : Nat, w.cell? (a.add i) = some (.int .u8 z) ∧ z < 256 := by
      intro i hi
      obtain ⟨h1, h2⟩ := hx i (by omega)
      obtain ⟨z, hz, _, hw⟩ := DataW.trod_int he h2
      have hz' : V i = .int .u8 z := by simpa using hz
      have hb := bounds_u8 hw
      obtain ⟨k, rfl⟩ := Int.eq_ofNat_of_zero_le hb.1
      exact ⟨k, by rw [h1, hz'], by omega⟩
    by_cases h0 : 0 < len
    · obtain ⟨b, off, spot⟩ := a
      obtain ⟨z, hz, _⟩ := each 0 h0
      have hspot : spot = none := by simpa [Addr.add] using World.cell?_spot hz
      subst hspot
      have each' : ∀ i, i < len → ∃ z : Nat, w.cell? ⟨b, off + i, none⟩ = some (.int .u8 z) ∧ z < 256 := fun i hi => by
        have := each i hi
        rwa [Go.WideShapes.add_plain] at this
      refine ⟨fun i => if i < len then (intOf ((w.cell? ⟨b, off + i, none⟩).getD undef)).toNat else 0, fun _ => ⟨b, off, rfl, ?_, ?_⟩, ?_⟩
      · obtain ⟨z, hz, _⟩ := each' 0 h0
        exact lt_of_cell' hz
      · intro i hi
        obtain ⟨z, hz, _⟩ := each' i hi
        simp [hi, hz, intOf]
      · intro i
        by_cases hc : i < len
        · obtain ⟨z, hz, hw⟩ := each' i hc
          simp only [hc, hz, intOf, if_true, Option.getD_some]; omega
        · rw [if_neg hc]; omega
    · exact ⟨fun _ => 0, fun h => absurd h h0, by simp⟩
end

end Go.Proofs.YtgpidokklhjfdaaGreat

/-
  A list of structs each of whose fields takes one cell, opened field by field; a list of integers; the asks of the second folder.
-/
namespace Go.Proofs.YtgpidokklhjfdaaGreat
open Go.ChangeShapes Go.WideShapes Go.ChangeAt Go.RowKit

section
variable {H : Type} {enc : TypeId × Value → H} {P : Program} {w : World} {base : Nat} {spare : Nat → Bool} {held : Bool}

/-- A list of integers. -/
theorem open_ints_at {t e : TypeId} {fuel : Nat} {v : Value} {x : DataW H × List MemPlace} (ht : P.underlying t = some (.slice e)) (he : P.underlying e = some (.int .i64))
    (ce : P.cellsOf e = 1) (h : DataW.trod enc P w base spare held fuel t [v] = some x) :
    ∃ ao cap L, v = .slice ao L.length cap ∧ L.length ≤ 9223372036854775807 ∧ IntsAt w ao L := by
  rcases Go.Deep.open_slice1 ht ce h with ⟨h0, _⟩ | ⟨a, len, cap, m, n, V, D, Pl, hcs, hb, hl, hm, hmm, _, hx⟩
  · exact ⟨none, 0, [], by simpa using h0, by simp, fun h => by simp at h, by simp, by simp⟩
  · unfold maxLen at hm
    have hlm : len ≤ m := by rw [hmm]; split <;> omega
    have each : ∀ i, i < len → ∃ z : Int, w.cell? (a.add i) = some (.int .i64 z) ∧ (Lit.int .i64 z).wf = true := by
      intro i hi
      obtain ⟨h1, h2⟩ := hx i (by omega)
      obtain ⟨z, hz, _, hw⟩ := DataW.trod_int he h2
      have hz' : V i = .int .i64 z := by simpa using hz
      exact ⟨z, by rw [h1, hz'], hw⟩
    obtain ⟨L, hL, hc⟩ : ∃ L : List Int, L.length = len ∧ ∀ i, i < len → w.cell? (a.add i) = some (.int .i64 (L[i]?.getD 0)) ∧ (Lit.int .i64 (L[i]?.getD 0)).wf = true := by
      refine ⟨(List.range len).map (fun i => intOf ((w.cell? (a.add i)).getD undef)), by simp, fun i hi => ?_⟩
      obtain ⟨z, hz, hw⟩ := each i hi
      have : ((List.range len).map (fun i => intOf ((w.cell? (a.add i)).getD undef)))[i]?.getD 0 = z := by simp [hi, hz, intOf]
      rw [this]; exact ⟨hz, hw⟩
    refine ⟨some a, cap, L, by rw [hL]; simpa using hcs, by omega, fun h0 => ?_, fun i => ?_, fun i => ?_⟩
    · obtain ⟨b, off, spot⟩ := a
      have h1 := (hc 0 (by omega)).1
      have hspot : spot = none := by simpa [Addr.add] using World.cell?_spot h1
      subst hspot
      refine ⟨b, off, rfl, ?_, fun i hi => ?_⟩
      · rw [Go.WideShapes.add_plain] at h1; exact lt_of_cell' h1
      · have := (hc i (by omega)).1
        rwa [Go.WideShapes.add_plain] at this
    · by_cases hi : i < len
      · have := bounds_i64 (hc i hi).2; omega
      · rw [List.getElem?_eq_none (by omega)]; simp
    · by_cases hi : i < len
      · have := bounds_i64 (hc i hi).2; omega
      · rw [List.getElem?_eq_none (by omega)]; simp

/-- A list of structs, field by field. -/
theorem open_rows {t e : TypeId} {fs : Array Field} {nf : Nat} {fuel len cap : Nat} {ao : Option Addr} {x : DataW H × List MemPlace} (ht : P.underlying t = some (.slice e)) (he : P.underlying e = some (.struct fs))
    (hn : fs.size = nf) (hpos : 0 < nf) (ce : P.cellsOf e = nf) (hf : ∀ (k : Nat) (f : Field), fs[k]? = some f → f.offset = k ∧ P.cellsOf f.type = 1)
    (h : DataW.trod enc P w base spare held fuel t [.slice ao len cap] = some x) :
    len ≤ 9223372036854775807 ∧ (0 < len → ∃ b off, ao = some ⟨b, off, none⟩ ∧ b < w.heap.size ∧ ∀ i k (f : Field), i < len → fs[k]? = some f → ∃ v n y, w.cell? ⟨b, off + (i * nf + k), none⟩ = some v ∧ DataW.trod enc P w base spare held n f.type [v] = some y) := by
  rcases Go.Deep.open_slice ht h with ⟨h0, _⟩ | ⟨a, len', cap', m, n, D, Pl, hcs, hb, hl, hm, hmm, _, hx⟩
  · simp at h0
    obtain ⟨rfl, rfl, rfl⟩ := h0
    exact ⟨by omega, fun h => by omega⟩
  · simp at hcs
    obtain ⟨rfl, rfl, rfl⟩ := hcs
    unfold maxLen at hm
    refine ⟨by omega, fun h0 => ?_⟩
    have hlm : len ≤ m := by rw [hmm]; split <;> omega
    have each : ∀ i k (f : Field), i < len → fs[k]? = some f → ∃ v n y, w.cell? (a.add (i * nf + k)) = some v ∧ DataW.trod enc P w base spare held n f.type [v] = some y := by
      intro i k f hi hk
      have hkn : k < nf := by rw [← hn]; exact (Array.getElem?_eq_some_iff.1 hk).1
      obtain ⟨cs', h1, h2⟩ := hx i (by omega)
      rw [ce] at h1
      obtain ⟨_, hlen, hcell⟩ := World.cells?_some h1
      obtain ⟨xs, q, _, _, _, hxl, hfs⟩ := DataW.trod_struct he h2
      obtain ⟨o1, o3⟩ := hf k _ hk
      have g := hfs k _ hk
      rw [o1, o3] at g
      have hxk : xs[k]? = some xs[k] := by simp [hxl, hn, hkn]
      rw [hxk] at g
      have e := hcell k hkn
      rw [Go.Deep.add_add] at e
      have h3 : cs'[k]? = some cs'[k] := by simp [hlen, hkn]
      have h4 : List.take 1 (List.drop k cs') = [cs'[k]] := by
        rw [List.drop_eq_getElem_cons (by omega)]; rfl
      rw [h4] at g
      exact ⟨cs'[k], _, _, by rw [e, h3], g⟩
    obtain ⟨b, off, spot⟩ := a
    obtain ⟨f0, hf0⟩ : ∃ f, fs[0]? = some f := ⟨fs[0], by simp [hn, hpos]⟩
    obtain ⟨v, _, _, hz, _⟩ := each 0 0 f0 h0 hf0
    have hspot : spot = none := by simpa [Addr.add] using World.cell?_spot hz
    subst hspot
    refine ⟨b, off, rfl, ?_, fun i k f hi hk => ?_⟩
    · rw [Go.WideShapes.add_plain] at hz; exact lt_of_cell' hz
    · obtain ⟨v, n, y, h1, h2⟩ := each i k f hi hk
      rw [Go.WideShapes.add_plain] at h1
      exact ⟨v, n, y, h1, h2⟩
end

/-- One ask of the second folder. -/
structure AskV where
  is : Bool
  at_ : Option Addr
  cp : Nat
  L : List Int
  n : Int
  k : Int

structure AskOk (w : World) (a : AskV) : Prop where
  ints : IntsAt w a.at_ a.L
  len : a.L.length ≤ 9223372036854775807
  n1 : -9223372036854775808 ≤ a.n
  n2 : a.n ≤ 9223372036854775807
  k1 : -9223372036854775808 ≤ a.k
  k2 : a.k ≤ 9223372036854775807

/-- n asks, in old memory. -/
structure AsksAt (w : World) (ao : Option Addr) (n : Nat) (A : Nat → AskV) : Prop where
  cells : 0 < n → ∃ b off, ao = some ⟨b, off, none⟩ ∧ b < w.heap.size ∧ ∀ i, i < n →
    w.cell? ⟨b, off + i * 4, none⟩ = some (.bool (A i).is) ∧ w.cell? ⟨b, off + i * 4 + 1, none⟩ = some (.slice (A i).at_ (A i).L.length (A i).cp) ∧
    w.cell? ⟨b, off + i * 4 + 2, none⟩ = some (.int .i64 (A i).n) ∧ w.cell? ⟨b, off + i * 4 + 3, none⟩ = some (.int .i64 (A i).k)
  ok : ∀ i, i < n → AskOk w (A i)

section
variable {H : Type} {enc : TypeId × Value → H} {P : Program} {w : World} {base : Nat} {spare : Nat → Bool} {held : Bool}
theorem open_asks2 {t e tb ts ti : TypeId} {f0 f1 f2 f3 : Field} {fuel len cap : Nat} {ao : Option Addr} {x : DataW H × List MemPlace} (ht : P.underlying t = some (.slice e)) (he : P.underlying e = some (.struct #[f0, f1, f2, f3]))
    (ce : P.cellsOf e = 4) (ho : f0.offset = 0 ∧ f1.offset = 1 ∧ f2.offset = 2 ∧ f3.offset = 3) (hty : f0.type = tb ∧ f1.type = ts ∧ f2.type = ti ∧ f3.type = ti)
    (hc : P.cellsOf tb = 1 ∧ P.cellsOf ts = 1 ∧ P.cellsOf ti = 1) (hb : P.underlying tb = some .bool) (hs : P.underlying ts = some (.slice ti)) (hi : P.underlying ti = some (.int .i64))
    (h : DataW.trod enc P w base spare held fuel t [.slice ao len cap] = some x) :
    len ≤ 9223372036854775807 ∧ ∃ A, AsksAt w ao len A := by
  obtain ⟨o0, o1, o2, o3⟩ := ho
  obtain ⟨t0, t1, t2, t3⟩ := hty
  obtain ⟨c0, c1, c2⟩ := hc
  obtain ⟨h1, h2⟩ := open_rows (nf := 4) ht he rfl (by omega) ce (by
    intro k f hk
    rcases k with _ | _ | _ | _ | k
    all_goals (simp at hk; try subst hk)
    · exact ⟨o0, by rw [t0]; exact c0⟩
    · exact ⟨o1, by rw [t1]; exact c1⟩
    · exact ⟨o2, by rw [t2]; exact c2⟩
    · exact ⟨o3, by rw [t3]; exact c2⟩) h
  refine ⟨h1, ?_⟩
  by_cases h0 : 0 < len
  · obtain ⟨b, off, rfl, hbl, hx⟩ := h2 h0
    have each : ∀ i, ∃ a : AskV, i < len → (w.cell? ⟨b, off + i * 4, none⟩ = some (.bool a.is) ∧ w.cell? ⟨b, off + i * 4 + 1, none⟩ = some (.slice a.at_ a.L.length a.cp) ∧
        w.cell? ⟨b, off + i * 4 + 2, none⟩ = some (.int .i64 a.n) ∧ w.cell? ⟨b, off + i * 4 + 3, none⟩ = some (.int .i64 a.k)) ∧ AskOk w a := by
      intro i
      by_cases hil : i < len
      · obtain ⟨v0, n0, y0, g0, r0⟩ := hx i 0 f0 hil rfl
        obtain ⟨v1, n1, y1, g1, r1⟩ := hx i 1 f1 hil rfl
        obtain ⟨v2, n2, y2, g2, r2⟩ := hx i 2 f2 hil rfl
        obtain ⟨v3, n3, y3, g3, r3⟩ := hx i 3 f3 hil rfl
        rw [t0] at r0
        rw [t1] at r1
        rw [t2] at r2
        rw [t3] at r3
        obtain ⟨z0, e0, _⟩ := DataW.trod_bool hb r0
        obtain ⟨ao', cp, L, e1, hl, hI⟩ := open_ints_at hs hi c2 r1
        obtain ⟨z2, e2, _, w2⟩ := DataW.trod_int hi r2
        obtain ⟨z3, e3, _, w3⟩ := DataW.trod_int hi r3
        have e0' : v0 = .bool z0 := by simpa using e0
        have e2' : v2 = .int .i64 z2 := by simpa using e2
        have e3' : v3 = .int .i64 z3 := by simpa using e3
        have b2 := bounds_i64 w2
        have b3 := bounds_i64 w3
        subst e0' e1 e2' e3'
        exact ⟨⟨z0, ao', cp, L, z2, z3⟩, fun _ => ⟨⟨g0, g1, g2, g3⟩, ⟨hI, hl, by simp only; omega, by simp only; omega, by simp only; omega, by simp only; omega⟩⟩⟩
      · exact ⟨⟨false, none, 0, [], 0, 0⟩, fun h => absurd h hil⟩
    obtain ⟨A, hA⟩ : ∃ A : Nat → AskV, ∀ i, i < len → (w.cell? ⟨b, off + i * 4, none⟩ = some (.bool (A i).is) ∧ w.cell? ⟨b, off + i * 4 + 1, none⟩ = some (.slice (A i).at_ (A i).L.length (A i).cp) ∧
        w.cell? ⟨b, off + i * 4 + 2, none⟩ = some (.int .i64 (A i).n) ∧ w.cell? ⟨b, off + i * 4 + 3, none⟩ = some (.int .i64 (A i).k)) ∧ AskOk w (A i) := ⟨fun i => Classical.choose (each i), fun i => Classical.choose_spec (each i)⟩
    exact ⟨A, fun _ => ⟨b, off, rfl, hbl, fun i hi => (hA i hi).1⟩, fun i hi => (hA i hi).2⟩
  · exact ⟨fun _ => ⟨false, none, 0, [], 0, 0⟩, fun h => absurd h h0, fun i hi => by omega⟩
end

end Go.Proofs.YtgpidokklhjfdaaGreat
