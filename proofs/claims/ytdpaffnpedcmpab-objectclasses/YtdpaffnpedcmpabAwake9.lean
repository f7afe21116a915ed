/-
  Whole and awake of gloaminglaw9.
-/
import Derived.Test.YtdpaffnpedcmpabObjRoom
namespace Go.Proofs.Ytdpaffnpedcmpab
open Go.RowKit

section
variable {w0 : World} {F0 : List Nat} {hb : Nat} {ws : List Int} {kd : List PK} {ds : List (Int × List Int)}
set_option maxRecDepth 100000 in
set_option maxHeartbeats 1600000 in
theorem owhole (w : World) (h : Has w0 F0 (heapA hb ws kd ds) w) :
    Calls Try.prog 6 #[.pointer (some ⟨hb, 0, none⟩)] w fun e w' => e = .returned (.bool true) ∧ w = w' := by
  obtain ⟨sb, tb, hr⟩ := h.raw
  obtain ⟨c0, c1, ⟨ab, ag, c2, _⟩, ⟨pb, c3⟩, _⟩ := hr.cells
  clear h hr
  go_enter Try.func6, Try.ntmps6
  go_wp2_with fail
  go_ret
  exact ⟨rfl, rfl⟩
end

theorem Fine.add {ws : List Int} {kd : List PK} {ds : List (Int × List Int)} (h : Fine ws kd ds) (f : Int) (L : List Int) : Fine ws kd (addR ds f L) := by
  unfold addR
  split
  · rename_i e
    simp at e
    exact ⟨h.wf, h.ob.add _, by simp; omega, h.len⟩
  · exact h

section
variable {w0 : World} {F0 : List Nat} {hb : Nat} {ws : List Int} {kd : List PK} {ds : List (Int × List Int)}
theorem Has.ptrs {w : World} (h : Has w0 F0 (heapA hb ws kd ds) w) : ∃ sb tb, w.cell? ⟨hb, 0, none⟩ = some (.pointer (some ⟨sb, 0, none⟩)) ∧ w.cell? ⟨hb, 1, none⟩ = some (.pointer (some ⟨tb, 0, none⟩)) := by
  obtain ⟨sb, tb, hr⟩ := h.raw
  exact ⟨sb, tb, hr.cells.1, hr.cells.2.1⟩
theorem ptr_eq {a b : Nat} (e : some (Value.pointer (some ⟨a, 0, none⟩)) = some (.pointer (some ⟨b, 0, none⟩))) : a = b := by
  injection e with e; injection e with e; injection e with e; injection e
theorem oof (tb : Nat) (f : Int) (ao : Option Addr) (n c : Nat) (L : List Int) (w : World) (h : Has w0 F0 (heapA hb ws kd ds) w) (ht : w.cell? ⟨hb, 1, none⟩ = some (.pointer (some ⟨tb, 0, none⟩))) (hA : IntsAt w ao L) (hc : ao = none → c = 0) (hn : L.length = n) (hbd : n ≤ 1000000) :
    Calls Try.prog 15 #[.pointer (some ⟨tb, 0, none⟩), .int .i64 f, .slice ao n c] w fun e w' => e = .returned (.tuple #[.int .i64 (addN ds f L), .int .i64 (addE ds f L)]) ∧ Has w0 F0 (heapA hb ws kd (addR ds f L)) w' := by
  obtain ⟨sb, tb', hr⟩ := h.raw
  have e := hr.cells.2.1
  rw [ht] at e
  obtain rfl := ptr_eq e
  refine (xof w f ao n c L hr hA hc hn hbd).mono ?_
  rintro e w' ⟨rfl, hX⟩
  exact ⟨rfl, hX.heap (h.fine.add f L)⟩
theorem ofind (sb : Nat) (a : Int) (w : World) (h : Has w0 F0 (heapA hb ws kd ds) w) (ht : w.cell? ⟨hb, 0, none⟩ = some (.pointer (some ⟨sb, 0, none⟩))) :
    Calls Try.prog 28 #[.pointer (some ⟨sb, 0, none⟩), .int .i64 a] w fun e w' => e = .returned (foundV (findI kd a)) ∧ Keep [] w w' := by
  obtain ⟨sb', tb, hr⟩ := h.raw
  have e := hr.cells.1
  rw [ht] at e
  obtain rfl := ptr_eq e
  exact xfind w a hr h.fine.wf
theorem ofree (sb : Nat) (a E : Int) (kd' : List PK) (w : World) (h : Has w0 F0 (heapA hb ws kd ds) w) (ht : w.cell? ⟨hb, 0, none⟩ = some (.pointer (some ⟨sb, 0, none⟩))) (hr : FreeT kd a E kd') :
    Calls Try.prog 10 #[.pointer (some ⟨sb, 0, none⟩), .int .i64 a] w fun e w' => e = .returned (.int .i64 E) ∧ Has w0 F0 (heapA hb ws kd' ds) w' := by
  obtain ⟨sb', tb, hx⟩ := h.raw
  have e := hx.cells.1
  rw [ht] at e
  obtain rfl := ptr_eq e
  refine (xfree w a E kd' hx h.fine.wf hr).mono ?_
  rintro e w' ⟨rfl, hX⟩
  exact ⟨rfl, hX.heap (hr.fine h.fine)⟩
end

theorem awake_each : (eachK ((freshK 2).set 1 (.small 0 ((offs (roomOf 0)).set 0 true)))).length = 1 := by decide +kernel
theorem block2 : blockI 2 = (2 : Nat) := by decide
set_option maxHeartbeats 1600000 in
theorem awake9_any (w : World) :
    Calls Try.prog 14 #[] w fun e w' => e = .returned (.bool true) ∧ Keep [] w w' := by
  have hA : AllocR (freshK 2) (1 + 1) (some (64, (freshK 2).set 1 (.small 0 ((offs (roomOf 0)).set 0 true)))) := fresh_small 2 0 2 (by omega) rfl
  have HT := (show Hid (MakeT (freshK 2) (zeros (64 * 2)) [] 3 0 1 false 64 0 ((fill0 (zeros (64 * 2)) 64 2).set 64 (putH 3 0 1 false)) ((freshK 2).set 1 (.small 0 ((offs (roomOf 0)).set 0 true)))) from .yes 64 2 _ (may_data 1 (by omega) (by omega)) rfl (.other (by omega)) hA block2)
  have HE := (show Hid ((eachK ((freshK 2).set 1 (.small 0 ((offs (roomOf 0)).set 0 true)))).length = 1) from awake_each)
  generalize (freshK 2).set 1 (.small 0 ((offs (roomOf 0)).set 0 true)) = kd at *
  generalize (fill0 (zeros (64 * 2)) 64 2).set 64 (putH 3 0 1 false) = ws at *
  clear hA
  go_enter Try.func14, Try.ntmps14
  go_wp2_with (first | (go_at_call 5; refine (onew_has 2 _ (by omega) (by omega)).mono ?_; rintro e w1 ⟨hb, rfl, hH⟩; have HH := (show Hid (Has w [] (heapA hb (zeros (64 * 2)) (freshK 2) []) w1) from hH); clear hH) | (go_at_call 6; refine (owhole _ HH.out).mono ?_; rintro e w' ⟨rfl, rfl⟩) | (go_at_call 7; refine (err_any _ _).mono ?_; rintro e w' ⟨rfl, rfl⟩) | (go_at_call 8; refine (omake 3 0 1 64 0 false ws kd _ HH.out HT.out).mono ?_; rintro e w2 ⟨rfl, hH2⟩; have HH2 := (show Hid (Has w [] (heapA hb ws kd []) w2) from hH2); clear hH2) | (go_at_call 12; refine (oobjects _ HH2.out).mono ?_; rw [HE.out]; rintro e w3 ⟨va, vc, vs, rfl, _, _, hK3⟩))
  go_ret
  exact ⟨rfl, HH2.out.K.trans hK3⟩

end Go.Proofs.Ytdpaffnpedcmpab
