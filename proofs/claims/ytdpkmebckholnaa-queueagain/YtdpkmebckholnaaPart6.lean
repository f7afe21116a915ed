/-
  Contracts of what the statement calls, one text behind the other (OwnA, ListA, Heap12).
-/
import Derived.Test.YtdpkmebckholnaaPart1
import Derived.Test.YtdpkmebckholnaaPart4
import Derived.Test.YtdpkmebckholnaaPart5

/-
  A list of integers that grows, as a part of memory beside others.
-/
namespace Go.Proofs.Ytdpkmebckholnaa
open Go.RowKit

def ownA (t : TypeId) (la : Option Addr) (q c : Nat) (L : List Int) : Asn where
  at' w F := F = la.toList.map (·.block) ∧ w.ownsRow 0 t 1 (.slice la q c) q (ints L) ∧ ∀ a, la = some a → a.block < w.heap.size
  keep := fun h K hS => ⟨h.1, own_keepS h.2.1 K (fun y e => hS _ (by rw [h.1, e]; simp)), fun a e => Nat.lt_of_lt_of_le (h.2.2 a e) K.size⟩
  lt := fun h k hk => by
    rw [h.1] at hk
    simp at hk
    obtain ⟨a, e, rfl⟩ := hk
    exact h.2.2 a e
theorem Has.own {w0 w : World} {F0 : List Nat} {t : TypeId} {la : Option Addr} {q c : Nat} {L : List Int} (h : Has w0 F0 (ownA t la q c L) w) : w.ownsRow 0 t 1 (.slice la q c) q (ints L) := h.fact (fun _ h => h.2.1)
theorem Has.ownNew {w0 w : World} {F0 : List Nat} {A : Asn} (t : TypeId) (h : Has w0 F0 A w) : Has w0 F0 (A.star (ownA t none 0 0 [])) w :=
  h.more (Keep.refl _ _) (G := []) ⟨rfl, World.ownsRow_nil _ _ _ _, by simp⟩ (by simp)
theorem Has.ownMore {w0 w w' : World} {F0 : List Nat} {A : Asn} {t : TypeId} {la : Option Addr} {q c q' c' g H : Nat} {L L' : List Int} (h : Has w0 F0 (A.star (ownA t la q c L)) w) (ho : w'.ownsRow 0 t 1 (.slice (some ⟨g, 0, none⟩) q' c') q' (ints L')) (hg : w.grownBy w' (Value.slice la q c).ownBlock)
    (hb : (Value.slice la q c).ownBlock = some g ∨ g = H) (hH : w.heap.size = H) (hlt : g < w'.heap.size) : Has w0 F0 (A.star (ownA t (some ⟨g, 0, none⟩) q' c' L')) w' := by
  refine (Has.left h.comm (A' := ownA t (some ⟨g, 0, none⟩) q' c' L') (fun F hF => ⟨[g], ⟨rfl, ho, fun a e => by cases e; exact hlt⟩, ?_, fun k hk => ?_⟩)).comm
  · rw [hF.1]; exact grown_keep hg
  · simp at hk
    subst hk
    rcases hb with hb | hb
    · left
      rw [hF.1]
      cases la with
      | none => simp [Value.ownBlock] at hb
      | some z => simp [Value.ownBlock] at hb; simp [hb]
    · right; omega

end Go.Proofs.Ytdpkmebckholnaa

/-
  A list of integers that nothing turns, as a part of memory beside others.
-/
namespace Go.Proofs.Ytdpkmebckholnaa
open Go.RowKit

def listA (la : Option Addr) (L : List Int) : Asn where
  at' w F := F = la.toList.map (·.block) ∧ IntsAt w la L ∧ ∀ a, la = some a → a.block < w.heap.size
  keep := fun h K hS => ⟨h.1, h.2.1.keep K (fun _ a e => hS _ (by rw [h.1, e]; simp)), fun a e => Nat.lt_of_lt_of_le (h.2.2 a e) K.size⟩
  lt := fun h k hk => by
    rw [h.1] at hk
    simp at hk
    obtain ⟨a, e, rfl⟩ := hk
    exact h.2.2 a e
theorem Has.list {w0 w : World} {F0 : List Nat} {la : Option Addr} {L : List Int} (h : Has w0 F0 (listA la L) w) : IntsAt w la L := h.fact (fun _ h => h.2.1)
/-- A list that was made since w beside what there is. -/
theorem Has.listed {w0 w w' : World} {F0 : List Nat} {A : Asn} {v : Value} {n : Nat} {L : List Int} {t : TypeId} (h : Has w0 F0 A w) (K : Keep [] w w') (ho : w'.ownsRow w.heap.size t 1 v n (ints L)) (hb : ∀ i : Nat, -9223372036854775808 ≤ L[i]?.getD 0 ∧ L[i]?.getD 0 ≤ 9223372036854775807) :
    ∃ la lc, v = .slice la L.length lc ∧ (la = none → lc = 0) ∧ Has w0 F0 (A.star (listA la L)) w' := by
  rcases own_ints ho hb with ⟨rfl, rfl, _⟩ | ⟨g, cap, rfl, _, h2, h3, h4⟩
  · exact ⟨none, 0, rfl, fun _ => rfl, h.more K (G := []) ⟨rfl, IntsAt.nil _ _, by simp⟩ (by simp)⟩
  · exact ⟨some ⟨g, 0, none⟩, cap, rfl, by simp, h.more K (G := [g]) ⟨rfl, h4, fun a e => by cases e; exact h3⟩ (by simpa using h2)⟩

end Go.Proofs.Ytdpkmebckholnaa

/-
  Heap and awake of gloaminglaw12: a heap with so many references.
-/
namespace Go.Proofs.Ytdpkmebckholnaa
open Go.RowKit

theorem Try.infoInt12 : (Try.prog.info? 3).map (fun i => (i.zero, i.size, i.bytes)) = some (some (.int .i64 0), 1, 8) := by kernel_rfl

set_option maxRecDepth 100000 in
set_option maxHeartbeats 6400000 in
theorem heap12 (n N : Nat) {W : Nat → List Int} {K : Nat → List PK} {A : Nat → Nat} (hC : Chain N W K A) (hn : n ≤ N) (hN : N ≤ 30) (w : World) :
    Calls Try.prog 8 #[.int .i64 n] w fun e w' => ∃ hb la lc, e = .returned (.tuple #[.pointer (some ⟨hb, 0, none⟩), .slice la n lc]) ∧ Has w [] ((heapA hb (W n) (K n) []).star (listA la (aL A n))) w' := by
  obtain ⟨i0, hi, hz0, hz1, hz2⟩ := info_parts Try.infoInt12
  have hI : Hid (Try.prog.info? 3 = some i0 ∧ i0.zero = some (.int .i64 0) ∧ i0.size = 1 ∧ i0.bytes = 8) := ⟨hi, hz0, hz1, hz2⟩
  clear hi hz0 hz1 hz2
  have HC := hid hC
  clear hC
  go_enter Try.func8, Try.ntmps8
  go_wp2_with (first | (go_at_call 19; refine (onew_has 40 _ (by omega) (by omega)).mono ?_; rintro e w1 ⟨hb, rfl, hH⟩; have HH := (show Hid (Has w [] (heapA hb (zeros (64 * 40)) (freshK 40) []) w1) from hH); clear hH) | (go_at_call 20; refine (owhole _ HH.out).mono ?_; rintro e w' ⟨rfl, rfl⟩) | (go_at_call 11; refine (err_any _ _).mono ?_; rintro e w' ⟨rfl, rfl⟩))
  have HH0 := (show Hid (Has w [] ((heapA hb (W 0) (K 0) []).star (ownA 3 none 0 0 (aL A 0))) w1) from by
    show Has _ _ _ _
    rw [HC.out.w0, HC.out.k0]
    exact HH.out.ownNew 3)
  clear HH
  go_loopw [6, 7] (fun l i wr => ∃ (j : Nat) (la : Option Addr) (lc : Nat), l = .slice la j lc ∧ i = .int .i64 j ∧ j ≤ n ∧ Hid (Has w [] ((heapA hb (W j) (K j) []).star (ownA 3 la j lc (aL A j))) wr)) (fun _ i _ => n - (intOf i).toNat)
  case atStart => exact ⟨0, none, 0, rfl, rfl, by omega, HH0⟩
  case round =>
    obtain ⟨j, la, lc, rfl, rfl, hj, HX⟩ := hrel
    obtain ⟨w2, rfl⟩ : ∃ w2, w2 = wr := ⟨_, rfl⟩
    clear HH0
    by_cases hlt : j < n
    · have hd : decide (j < n) = true := decide_eq_true hlt
      obtain ⟨r, hr⟩ : ∃ r, j % 3 = r := ⟨_, rfl⟩
      have hri : (j : Int) % 3 = r := by rw [← hr]; rfl
      obtain ⟨c, hc⟩ : ∃ c : Int, 1 + (r : Int) = c := ⟨_, rfl⟩
      have HT := (show Hid (MakeT (K j) (W j) [] 4 c 5 false (A j : Int) 0 (W (j + 1)) (K (j + 1))) from by
        have := HC.out.step j (by omega)
        rw [hr, hc] at this
        exact this)
      have hc3 : 1 ≤ c ∧ c ≤ 3 := by omega
      obtain ⟨a, ha⟩ : ∃ a, A j = a := ⟨_, rfl⟩
      have hab := HC.out.bd j (by omega)
      rw [ha] at HT hab
      have HL := (show Hid (aL A (j + 1) = aL A j ++ [(a : Int)]) from by show _ = _; rw [aL_snoc, ha])
      clear hr ha
      go_wp2_with (first | (go_at_call 16; refine (has_left HX.out (fun F hF => omake 4 c 5 a 0 false _ _ _ hF HT.out)).mono ?_; rintro e w3 ⟨rfl, hX3⟩; have HX3 := hid hX3; clear hX3) | (go_at_call 11; refine (err_any _ _).mono ?_; rintro e w' ⟨rfl, rfl⟩) | (at_builtin; refine wpList_append_lies _ rfl (.tmp 39) (.tmp 41) 24 rfl 0 3 i0 (.int .i64 0) 1 8 Try.underlying24 hI.out.1 hI.out.2.1 hI.out.2.2.1 hI.out.2.2.2 rfl (by decide) _ j (ints (aL A j)) rfl (HX3.out.snd.own.alloc _) ⟨w3.heap.size, 0, none⟩ 1 1 (ints [(a : Int)]) rfl rfl (one_cell _ _ _) (ints_one _) (by omega) (by unfold maxLen; omega) (by omega) (by omega) (w3.heap.size + 1) (by simp) ?_; intro ga ca7 w7 hown7 hgrow7 hblk7 hlt7; rw [ints_app] at hown7; have HX7 := (show Hid (Has w [] ((heapA hb (W (j + 1)) (K (j + 1)) []).star (ownA 3 (some ⟨ga, 0, none⟩) (j + 1) ca7 (aL A (j + 1)))) w7) from by show Has _ _ _ _; rw [HL.out]; exact (HX3.out.keep0 (Keep.alloc [] _ _)).ownMore hown7 hgrow7 hblk7 (by simp) hlt7); clear hown7 hgrow7 hblk7 hlt7))
      go_roundw
      case rel => exact ⟨j + 1, some ⟨ga, 0, none⟩, ca7, by rfl, by go_num, by omega, HX7⟩
      case measure => simp [intOf]; omega
    · obtain rfl : j = n := by omega
      go_wp2_with fail
      go_ret2
      refine ⟨hb, la, lc, rfl, ?_⟩
      refine (HX.out.comm.map (fun F g => ?_)).comm
      obtain ⟨F1, F2, hF, h1, h2, hd⟩ := g
      exact ⟨F1, F2, hF, ⟨h1.1, (own_at h1.2.1 (HC.out.aBd j hn)).1, h1.2.2⟩, h2, hd⟩

theorem Has.qlen {w0 w : World} {F0 : List Nat} {A : Asn} {la : Option Addr} {A0 : Nat → Nat} {n : Nat} (h : Has w0 F0 (A.star (listA la (aL A0 n))) w) (hn : 0 < n) : ∃ b off, la = some ⟨b, off, none⟩ ∧ ∀ i, i < n → w.cell? ⟨b, off + i, none⟩ = some (.int .i64 (A0 i : Int)) := by
  obtain ⟨b, off, e, _, hc⟩ := h.snd.list.cells (by rw [aL_length]; exact hn)
  refine ⟨b, off, e, fun i hi => ?_⟩
  rw [hc i (by rw [aL_length]; exact hi), aL_get A0 n i hi]

set_option maxRecDepth 100000 in
set_option maxHeartbeats 3200000 in
theorem awake12_any (w : World) :
    Calls Try.prog 15 #[] w fun e w' => e = .returned (.bool true) ∧ Keep [] w w' := by
  obtain ⟨W, K, A, hC⟩ := chain_ex 0 (by omega)
  have HC := hid hC
  clear hC
  go_enter Try.func15, Try.ntmps15
  go_wp2_with fail
  refine (heap12 0 0 HC.out (by omega) (by omega) _).mono ?_
  rintro e w1 ⟨hb, la, lc, rfl, hX⟩
  have HX := hid hX.fst
  clear hX
  go_wp2_with fail
  refine (qnew _ HX.out).mono ?_
  rintro e w2 ⟨qb, rfl, hQ⟩
  have HQ := hid hQ
  clear hQ HX
  go_wp2_with fail
  refine (qopen_yes _ HQ.out (by simp)).mono ?_
  rintro e w3 ⟨rfl, hQ3⟩
  have HQ3 := hid hQ3
  clear hQ3 HQ
  go_wp2_with fail
  refine (qpoll_empty 0 _ HQ3.out rfl).mono ?_
  rintro e w4 ⟨rfl, rfl⟩
  go_wp2_with (first | (go_at_call 11; refine (err_any _ _).mono ?_; rintro e w' ⟨rfl, rfl⟩) | (go_at_call 9; refine (qnew_nil _).mono ?_; rintro e w' ⟨rfl, rfl⟩))
  go_ret
  exact ⟨rfl, HQ3.out.K⟩

end Go.Proofs.Ytdpkmebckholnaa
