/-
  Whole and awake of gloaminglaw9.
-/
import Derived.Test.YtgpidokklhjfdaaGreatPart7
namespace Go.Proofs.YtgpidokklhjfdaaGreat
open Go.RowKit

section
variable {w0 : World} {F0 : List Nat} {hb : Nat} {ws : List Int} {kd : List PK} {ds : List (Int × List Int)}
set_option maxRecDepth 100000 in
set_option maxHeartbeats 1600000 in
theorem owhole (w : World) (h : Has w0 F0 (heapA hb ws kd ds) w) :
    Calls Tryz.prog 22 #[.pointer (some ⟨hb, 0, none⟩)] w fun e w' => e = .returned (.bool true) ∧ w = w' := by
  obtain ⟨sb, tb, hr⟩ := h.raw
  obtain ⟨c0, c1, ⟨ab, ag, c2, _⟩, ⟨pb, c3⟩, _⟩ := hr.cells
  clear h hr
  go_enter Tryz.func22, Tryz.ntmps22
  go_wp2_with fail
  go_ret
  exact ⟨rfl, rfl⟩
end

theorem Fine.add {ws : List Int} {kd : List PK} {ds : List (Int × List Int)} (h : Fine ws kd ds) (f : Int) (L : List Int) : Fine ws kd (addR ds f L) := by
  unfold addR
  split
  · rename_i e
    simp at e
    exact ⟨h.wf, h.ob.add _, by simp; omega, h.len⟩
  · exact h

section
variable {w0 : World} {F0 : List Nat} {hb : Nat} {ws : List Int} {kd : List PK} {ds : List (Int × List Int)}
theorem Has.ptrs {w : World} (h : Has w0 F0 (heapA hb ws kd ds) w) : ∃ sb tb, w.cell? ⟨hb, 0, none⟩ = some (.pointer (some ⟨sb, 0, none⟩)) ∧ w.cell? ⟨hb, 1, none⟩ = some (.pointer (some ⟨tb, 0, none⟩)) := by
  obtain ⟨sb, tb, hr⟩ := h.raw
  exact ⟨sb, tb, hr.cells.1, hr.cells.2.1⟩
theorem ptr_eq {a b : Nat} (e : some (Value.pointer (some ⟨a, 0, none⟩)) = some (.pointer (some ⟨b, 0, none⟩))) : a = b := by
  injection e with e; injection e with e; injection e with e; injection e
theorem oof (tb : Nat) (f : Int) (ao : Option Addr) (n c : Nat) (L : List Int) (w : World) (h : Has w0 F0 (heapA hb ws kd ds) w) (ht : w.cell? ⟨hb, 1, none⟩ = some (.pointer (some ⟨tb, 0, none⟩))) (hA : IntsAt w ao L) (hc : ao = none → c = 0) (hn : L.length = n) (hbd : n ≤ 1000000) :
    Calls Tryz.prog 23 #[.pointer (some ⟨tb, 0, none⟩), .int .i64 f, .slice ao n c] w fun e w' => e = .returned (.tuple #[.int .i64 (addN ds f L), .int .i64 (addE ds f L)]) ∧ Has w0 F0 (heapA hb ws kd (addR ds f L)) w' := by
  obtain ⟨sb, tb', hr⟩ := h.raw
  have e := hr.cells.2.1
  rw [ht] at e
  obtain rfl := ptr_eq e
  refine (xof w f ao n c L hr hA hc hn hbd).mono ?_
  rintro e w' ⟨rfl, hX⟩
  exact ⟨rfl, hX.heap (h.fine.add f L)⟩
theorem ofind (sb : Nat) (a : Int) (w : World) (h : Has w0 F0 (heapA hb ws kd ds) w) (ht : w.cell? ⟨hb, 0, none⟩ = some (.pointer (some ⟨sb, 0, none⟩))) :
    Calls Tryz.prog 101 #[.pointer (some ⟨sb, 0, none⟩), .int .i64 a] w fun e w' => e = .returned (foundV (findI kd a)) ∧ Keep [] w w' := by
  obtain ⟨sb', tb, hr⟩ := h.raw
  have e := hr.cells.1
  rw [ht] at e
  obtain rfl := ptr_eq e
  exact xfind w a hr h.fine.wf
end

theorem awake_each : (eachK ((freshK 2).set 1 (.small 0 ((offs (roomOf 0)).set 0 true)))).length = 1 := by decide +kernel
theorem block2 : blockI 2 = (2 : Nat) := by decide
end Go.Proofs.YtgpidokklhjfdaaGreat
