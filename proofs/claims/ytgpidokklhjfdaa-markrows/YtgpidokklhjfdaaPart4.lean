/-
  Contracts of what the statement calls, one text behind the other (SpaceFree, SpaceHeld, Class, ClassOps, HeapAt, Obj, ObjMake, ObjNew, ObjList, ObjAll).
-/
import Derived.Test.YtgpidokklhjfdaaPart3
import Derived.Test.YtgpidokklhjfdaaRows
import Derived.Test.YtgpidokklhjfdaaPart2
import Derived.Deep.AppendLies
import Derived.Deep.RegionHeld3
import Derived.Deep.RegionLaw

/-
  Free of package space.
-/
namespace Go.Proofs.Ytgpidokklhjfdaa
open Go.RowKit

end Go.Proofs.Ytgpidokklhjfdaa

/-
  A space that a statement has made: what each call answers and leaves, with nothing older turned.
-/
namespace Go.Proofs.Ytgpidokklhjfdaa
open Go.RowKit

/-- A space all of whose memory is younger than w0, in a world that leaves all that is older as it was. -/
def Held (w0 w : World) (sb : Nat) (ws : List Int) (kd : List PK) : Prop := ∃ F, IsSpace w sb F ws kd ∧ WF kd ∧ Keep [] w0 w ∧ ∀ k, k ∈ F → w0.heap.size ≤ k
theorem Held.keep0 {w0 w w' : World} {sb : Nat} {ws : List Int} {kd : List PK} (h : Held w0 w sb ws kd) (K : Keep [] w w') : Held w0 w' sb ws kd := by
  obtain ⟨F, h1, h2, h3, h4⟩ := h
  exact ⟨F, h1.keep0 K, h2, h3.trans K, h4⟩
theorem Held.K {w0 w : World} {sb : Nat} {ws : List Int} {kd : List PK} (h : Held w0 w sb ws kd) : Keep [] w0 w := by
  obtain ⟨F, h1, h2, h3, h4⟩ := h; exact h3
theorem Held.wf {w0 w : World} {sb : Nat} {ws : List Int} {kd : List PK} (h : Held w0 w sb ws kd) : WF kd := by
  obtain ⟨F, h1, h2, h3, h4⟩ := h; exact h2
theorem Held.len {w0 w : World} {sb : Nat} {ws : List Int} {kd : List PK} (h : Held w0 w sb ws kd) : ws.length = 64 * kd.length := by
  obtain ⟨F, h1, h2, h3, h4⟩ := h; exact h1.len
theorem Held.c0 {w0 w : World} {sb : Nat} {ws : List Int} {kd : List PK} (h : Held w0 w sb ws kd) : ∃ ab, w.cell? ⟨sb, 0, none⟩ = some (.pointer (some ⟨ab, 0, none⟩)) := by
  obtain ⟨F, ⟨L, h⟩, _⟩ := h; exact ⟨_, h.c0⟩
theorem Held.c1 {w0 w : World} {sb : Nat} {ws : List Int} {kd : List PK} (h : Held w0 w sb ws kd) : ∃ pb, w.cell? ⟨sb, 1, none⟩ = some (.pointer (some ⟨pb, 0, none⟩)) := by
  obtain ⟨F, ⟨L, h⟩, _⟩ := h; exact ⟨_, h.c1⟩
theorem Held.step {w0 w w' : World} {sb : Nat} {F F' : List Nat} {ws : List Int} {kd : List PK} (h1 : IsSpace w' sb F' ws kd) (h2 : WF kd) (hK0 : Keep [] w0 w) (hF : ∀ k, k ∈ F → w0.heap.size ≤ k) (hK : Keep F w w') (hG : Grows w F F') : Held w0 w' sb ws kd := by
  have := hK0.size
  refine ⟨F', h1, h2, (hK0.mono (by simp)).trans hK |>.drop (fun k e hlt => by have := hF k e; omega), fun k e => ?_⟩
  rcases hG k e with e | e
  · exact hF k e
  · omega

theorem hnew (n : Nat) (w0 w : World) (hK : Keep [] w0 w) (h1 : 1 ≤ n) (h2 : n ≤ 256) :
    Calls Try.prog 25 #[.int .i64 n] w fun e w' => ∃ sb, e = .returned (.tuple #[.pointer (some ⟨sb, 0, none⟩), .int .i64 0]) ∧ Held w0 w' sb (zeros (64 * n)) (freshK n) := by
  refine (snew_ok n w h1 h2).mono ?_
  rintro e w' ⟨sb, F, rfl, hS, hK1, _, hF⟩
  have := hK.size
  exact ⟨sb, rfl, F, hS, freshK_wf n h1 h2, hK.trans hK1, fun k e => by have := hF k e; omega⟩
theorem halloc_yes {w0 : World} (sb a b : Nat) (n : Int) (ws : List Int) (kd kd' : List PK) (w : World) (h : Held w0 w sb ws kd) (hr : AllocR kd n (some (a, kd'))) (hb : blockI n = b) :
    Calls Try.prog 29 #[.pointer (some ⟨sb, 0, none⟩), .int .i64 n] w fun e w' => e = .returned (.tuple #[.int .i64 a, .int .i64 0]) ∧ Held w0 w' sb (fill0 ws a b) kd' := by
  obtain ⟨F, h1, h2, h3, h4⟩ := h
  refine (salloc_yes sb a b n F ws kd kd' w h1 h2 hr hb).mono ?_
  rintro e w' ⟨F', rfl, hS, hK, hG⟩
  obtain ⟨_, _, _, hw', _⟩ := hr.spec h2
  exact ⟨rfl, Held.step hS hw' h3 h4 hK hG⟩
theorem halloc_no {w0 : World} (sb : Nat) (n : Int) (ws : List Int) (kd : List PK) (w : World) (h : Held w0 w sb ws kd) (hr : AllocR kd n none) (hb : blockI n ≠ 0) :
    Calls Try.prog 29 #[.pointer (some ⟨sb, 0, none⟩), .int .i64 n] w fun e w' => e = .returned (.tuple #[.int .i64 0, .int .i64 3]) ∧ Held w0 w' sb ws kd := by
  obtain ⟨F, h1, h2, h3, h4⟩ := h
  refine (salloc_no sb n F ws kd w h1 h2 hr hb).mono ?_
  rintro e w' ⟨rfl, hK⟩
  exact ⟨rfl, F, h1.keep0 hK, h2, h3.trans hK, h4⟩
theorem halloc_arg {w0 : World} (sb : Nat) (n : Int) (ws : List Int) (kd : List PK) (w : World) (h : Held w0 w sb ws kd) (hb : blockI n = 0) :
    Calls Try.prog 29 #[.pointer (some ⟨sb, 0, none⟩), .int .i64 n] w fun e w' => e = .returned (.tuple #[.int .i64 0, .int .i64 1]) ∧ Held w0 w' sb ws kd := by
  refine (salloc_arg sb n w hb).mono ?_
  rintro e w' ⟨rfl, hK⟩
  exact ⟨rfl, h.keep0 hK⟩
theorem hfind {w0 : World} (sb : Nat) (a : Int) (ws : List Int) (kd : List PK) (w : World) (h : Held w0 w sb ws kd) :
    Calls Try.prog 82 #[.pointer (some ⟨sb, 0, none⟩), .int .i64 a] w fun e w' => e = .returned (foundV (findI kd a)) ∧ Held w0 w' sb ws kd := by
  obtain ⟨F, h1, h2, h3, h4⟩ := h
  refine (sfind_any sb F a ws kd w h1 h2).mono ?_
  rintro e w' ⟨rfl, hK⟩
  exact ⟨rfl, F, h1.keep0 hK, h2, h3.trans hK, h4⟩
/-- The arena's own calls, through the space. -/
theorem hload {w0 : World} (sb ab a : Nat) (ws : List Int) (kd : List PK) (w : World) (h : Held w0 w sb ws kd) (hc : w.cell? ⟨sb, 0, none⟩ = some (.pointer (some ⟨ab, 0, none⟩))) (ha : a < ws.length) :
    Calls Try.prog 50 #[.pointer (some ⟨ab, 0, none⟩), .int .i64 a] w fun e w' => e = .returned (.tuple #[.int .i64 (ws[a]?.getD 0), .int .i64 0]) ∧ w = w' := by
  obtain ⟨F, ⟨L, h1⟩, h2, h3, h4⟩ := h
  have e := h1.c0
  rw [hc] at e
  have e2 : ab = L.ab := by injection e with e; injection e with e; injection e with e; injection e
  subst e2
  exact load_yes L.ab L.ag a ws w h1.arena ha
theorem hstore {w0 : World} (sb ab a : Nat) (x : Int) (ws : List Int) (kd : List PK) (w : World) (h : Held w0 w sb ws kd) (hc : w.cell? ⟨sb, 0, none⟩ = some (.pointer (some ⟨ab, 0, none⟩))) (ha : a < ws.length) :
    Calls Try.prog 32 #[.pointer (some ⟨ab, 0, none⟩), .int .i64 a, .int .i64 x] w fun e w' => e = .returned (.int .i64 0) ∧ Held w0 w' sb (ws.set a x) kd := by
  obtain ⟨F, ⟨L, h1⟩, h2, h3, h4⟩ := h
  have e := h1.c0
  rw [hc] at e
  have e2 : ab = L.ab := by injection e with e; injection e with e; injection e with e; injection e
  subst e2
  refine (store_yes L.ab L.ag a x ws w h1.arena ha).mono ?_
  rintro e w' ⟨rfl, hA, hK⟩
  have f := h1.f.2.2.1
  exact ⟨rfl, Held.step (F := F) (F' := F) ⟨L, h1.words hK hA (by simp)⟩ h2 h3 h4 (hK.mono (fun k e => by simp at e; subst e; exact f)) (Grows.refl _ _)⟩
/-- The first block of a new space. -/
theorem fresh_small (N c : Nat) (n : Int) (hN : 2 ≤ N) (hc : classI n = c) : AllocR (freshK N) n (some (64, (freshK N).set 1 (.small c ((offs (roomOf c)).set 0 true)))) := by
  have := AllocR.new (kd := freshK N) (n := n) c 1 hc (nextR_none _ _ _ (fun t _ _ => by rw [hasL_get, freshK_has N c t (by omega)]; simp)) (by rw [freshK_taken N (by omega)]; exact fresh_run N 1 (by omega) (by omega))
  exact this
theorem fresh_large (N k : Nat) (n : Int) (hk : 1 ≤ k) (hN : k < N) (hc : classI n = -1) (hp : pagesI n = k) : AllocR (freshK N) n (some (64, putParts (freshK N) 1 k)) := by
  have := AllocR.large (kd := freshK N) (n := n) k 1 hc hp hk (by rw [freshK_taken N (by omega)]; exact fresh_run N k hk hN)
  exact this
/-- Whatever is asked of a new space. -/
theorem fresh_alloc (N b : Nat) (n : Int) (hb : blockI n = b) (hb1 : 1 ≤ b) (hN : b ≤ 64 * (N - 1)) (hN2 : 2 ≤ N) : ∃ kd', AllocR (freshK N) n (some (64, kd')) := by
  rcases class_lt n with hc | ⟨c, hc, _⟩
  · obtain ⟨k, hk⟩ := Int.eq_ofNat_of_zero_le (pages_le n).1
    have e := block_none n hc
    rw [hk] at e
    exact ⟨_, fresh_large N k n (by omega) (by omega) hc hk⟩
  · exact ⟨_, fresh_small N c n hN2 hc⟩

set_option maxHeartbeats 400000 in
theorem err_any (n : Int) (w : World) :
    Calls Try.prog 9 #[.int .i64 n] w fun e w' => e = .returned (.int .i64 n) ∧ w = w' := by
  go_enter Try.func9, Try.ntmps9
  go_wp2
  go_ret
  exact ⟨rfl, rfl⟩

theorem awake_used : usedK ((freshK 2).set 1 (.small 1 ((offs (roomOf 1)).set 0 true))) = 4 := by decide +kernel
end Go.Proofs.Ytgpidokklhjfdaa

/-
  Package class: what its calls answer and leave, over a table in memory.
-/
namespace Go.Proofs.Ytgpidokklhjfdaa
open Go.RowKit

theorem Try.infoIntC : (Try.prog.info? 3).map (fun i => (i.zero, i.size, i.bytes)) = some (some (.int .i64 0), 1, 8) := by kernel_rfl
theorem Try.infoClass : (Try.prog.info? 94).map (fun i => (i.zero, i.size, i.bytes)) = some (some (.agg #[.int .i64 0, .slice none 0 0]), 2, 32) := by kernel_rfl

/-- Address i of a class of f fields is one, and lies behind the one ahead. -/
def okAt (f : Int) (L : List Int) (i : Nat) : Prop := 0 ≤ L[i]?.getD 0 ∧ L[i]?.getD 0 < f ∧ (0 < i → L[i - 1]?.getD 0 < L[i]?.getD 0)
instance (f : Int) (L : List Int) (i : Nat) : Decidable (okAt f L i) := by unfold okAt; infer_instance
/-- A class that may be. -/
def mayP (f : Int) (L : List Int) : Prop := 0 ≤ f ∧ f ≤ 1023 ∧ ∀ i, i < L.length → okAt f L i
instance (f : Int) (L : List Int) : Decidable (mayP f L) := by unfold mayP; infer_instance
def mayB (f : Int) (L : List Int) : Bool := decide (mayP f L)
theorem mayB_yes {f : Int} {L : List Int} (h1 : 0 ≤ f) (h2 : f ≤ 1023) (h : ∀ i, i < L.length → okAt f L i) : mayB f L = true := decide_eq_true ⟨h1, h2, h⟩
theorem mayB_low {f : Int} {L : List Int} (h1 : ¬ (0 ≤ f ∧ f ≤ 1023)) : mayB f L = false := decide_eq_false (fun h => h1 ⟨h.1, h.2.1⟩)
theorem mayB_no {f : Int} {L : List Int} (i : Nat) (hi : i < L.length) (h : ¬ okAt f L i) : mayB f L = false := decide_eq_false (fun k => h (k.2.2 i hi))
theorem mayB_iff {f : Int} {L : List Int} : mayB f L = true ↔ mayP f L := by unfold mayB; simp
/-- The address ahead of number j. -/
def lastI (L : List Int) (j : Nat) : Int := if j = 0 then -1 else L[j - 1]?.getD 0
theorem lastI_succ (L : List Int) (j : Nat) : lastI L (j + 1) = L[j]?.getD 0 := by simp [lastI]
theorem okAt_iff {f : Int} {L : List Int} {j : Nat} (hj : j < L.length) (h : ∀ i, i < j → okAt f L i) : okAt f L j ↔ lastI L j < L[j]?.getD 0 ∧ L[j]?.getD 0 < f := by
  unfold okAt lastI
  rcases Nat.eq_zero_or_pos j with rfl | hp
  · simp; omega
  · have := (h (j - 1) (by omega)).1
    rw [if_neg (by omega)]
    constructor
    · rintro ⟨a, b, c⟩; exact ⟨c hp, b⟩
    · rintro ⟨a, b⟩; exact ⟨by omega, b, fun _ => a⟩
theorem lastI_bd {w : World} {ao : Option Addr} {L : List Int} (h : IntsAt w ao L) (j : Nat) : -9223372036854775808 ≤ lastI L j ∧ lastI L j ≤ 9223372036854775807 := by
  unfold lastI
  split
  · omega
  · exact ⟨h.low _, h.high _⟩

set_option maxHeartbeats 800000 in
theorem may_any (f : Int) (ao : Option Addr) (n c : Nat) (L : List Int) (w : World) (hA : IntsAt w ao L) (hn : L.length = n) (hb : n ≤ 9223372036854775807) :
    Calls Try.prog 81 #[.agg #[.int .i64 f, .slice ao n c]] w fun e w' => e = .returned (.bool (mayB f L)) ∧ Keep [] w w' := by
  have hK1 := Keep.alloc [] w (.cells #[.int .i64 f, .slice ao n c] 94)
  by_cases hf : 0 ≤ f ∧ f ≤ 1023
  · obtain ⟨hf1, hf2⟩ := hf
    have hd1 : decide (f < 0) = false := by rw [decide_eq_false_iff_not]; omega
    have HI := (show Hid (0 < n → ∃ b off, ao = some ⟨b, off, none⟩ ∧ b < w.heap.size ∧ ∀ i, i < n → w.cell? ⟨b, off + i, none⟩ = some (.int .i64 (L[i]?.getD 0))) from fun h => by rw [← hn] at h ⊢; exact hA.cells h)
    have HA := (show Hid (IntsAt w ao L) from hA)
    have HN := (show Hid (L.length = n) from hn)
    clear hA hn
    have hx1 := heap_alloc_new w (.cells #[.int .i64 f, .slice ao n c] 94)
    go_enter Try.func81, Try.ntmps81
    go_wp2
    generalize w.alloc (.cells #[.int .i64 f, .slice ao n c] 94) = w1 at *
    obtain ⟨bx, hbx⟩ : ∃ bx, w.heap.size = bx := ⟨_, rfl⟩
    rw [hbx] at hx1 ⊢
    have c0 : w1.cell? ⟨bx, 0, none⟩ = some (.int .i64 f) := by simp [World.cell?, hx1]
    clear hx1 hbx
    go_loopw [3, 17] (fun l i wr => ∃ j : Nat, l = .int .i64 (lastI L j) ∧ i = .int .i64 j ∧ j ≤ n ∧ (∀ i, i < j → okAt f L i) ∧ wr = w1) (fun _ i _ => n - (intOf i).toNat)
    case atStart => exact ⟨0, rfl, rfl, by omega, fun i h => by omega, rfl⟩
    case round =>
      obtain ⟨j, rfl, rfl, hj, hok, rfl⟩ := hrel
      have HO := (show Hid (∀ i, i < j → okAt f L i) from hok)
      clear hok
      by_cases hlt : j < n
      · obtain ⟨b, off, rfl, hbs, hcell⟩ := HI.out (by omega)
        have hc := (hK1.cell hbs (by simp) (off + j)).trans (hcell j hlt)
        have HQ := (show Hid (okAt f L j ↔ lastI L j < L[j]?.getD 0 ∧ L[j]?.getD 0 < f) from okAt_iff (by rw [HN.out]; exact hlt) HO.out)
        have HS := (show Hid (lastI L (j + 1) = L[j]?.getD 0) from lastI_succ L j)
        have hbl := lastI_bd HA.out j
        have hbr := And.intro (HA.out.low j) (HA.out.high j)
        generalize L[j]?.getD 0 = x at hc HQ HS hbr
        generalize lastI L j = l at *
        clear hcell
        by_cases h1 : x ≤ l
        · have HM := (show Hid (mayB f L = false) from mayB_no j (by rw [HN.out]; exact hlt) (fun k => by have := (HQ.out.1 k).1; omega))
          go_wp2_with fail
          go_ret
          rw [HM.out]; exact ⟨rfl, hK1⟩
        · have hd2 : decide (x ≤ l) = false := by rw [decide_eq_false_iff_not]; omega
          by_cases h2 : f ≤ x
          · have HM := (show Hid (mayB f L = false) from mayB_no j (by rw [HN.out]; exact hlt) (fun k => by have := (HQ.out.1 k).2; omega))
            go_wp2_with fail
            go_ret
            rw [HM.out]; exact ⟨rfl, hK1⟩
          · have HO2 := (show Hid (∀ i, i < j + 1 → okAt f L i) from fun i hi => by
              rcases Nat.lt_or_ge i j with h | h
              · exact HO.out i h
              · obtain rfl : i = j := by omega
                exact HQ.out.2 ⟨by omega, by omega⟩)
            go_wp2_with fail
            go_roundw
            case rel => exact ⟨j + 1, by rw [HS.out], by go_num, by omega, HO2.out, trivial⟩
            case measure => simp [intOf]; omega
      · obtain rfl : j = n := by omega
        have HM := (show Hid (mayB f L = true) from mayB_yes hf1 hf2 (by rw [HN.out]; exact HO.out))
        go_wp2
        go_ret
        rw [HM.out]; exact ⟨rfl, hK1⟩
  · rw [mayB_low hf]
    by_cases h0 : f < 0
    · go_enter Try.func81, Try.ntmps81
      go_wp2
      go_ret
      exact ⟨rfl, hK1⟩
    · have hd1 : decide (f < 0) = false := by rw [decide_eq_false_iff_not]; omega
      have h2 : 1023 < f := by omega
      clear hf
      go_enter Try.func81, Try.ntmps81
      go_wp2
      go_ret
      exact ⟨rfl, hK1⟩

/-- A slice of integers that a call hands back: what it holds, in memory that is new. -/
def GivesI (w w' : World) (v : Value) (L : List Int) : Prop := ∃ la lc, v = .slice la L.length lc ∧ IntsAt w' la L ∧ (la = none → lc = 0) ∧ ∀ a, la = some a → w.heap.size ≤ a.block ∧ a.block < w'.heap.size ∧ ∃ arr t, w'.heap[a.block]? = some (.cells arr t (0, 0))

/-- A row of one's own, as a slice. -/
theorem own_form {w : World} {base : Nat} {e : TypeId} {v : Value} {n : Nat} {L : List Int} (hown : w.ownsRow base e 1 v n (ints L)) (hbd : ∀ i : Nat, -9223372036854775808 ≤ L[i]?.getD 0 ∧ L[i]?.getD 0 ≤ 9223372036854775807) :
    ∃ la lc, v = .slice la n lc ∧ L.length = n ∧ IntsAt w la L ∧ (∀ a, la = some a → base ≤ a.block ∧ a.block < w.heap.size) ∧ (la = none → lc = 0) := by
  rcases own_ints hown hbd with ⟨rfl, rfl, rfl⟩ | ⟨gl, cap, rfl, h, hgl, hlt, hIL⟩
  · exact ⟨none, 0, rfl, rfl, IntsAt.nil _ _, fun a h => (by cases h), fun _ => rfl⟩
  · subst h; exact ⟨some ⟨gl, 0, none⟩, cap, rfl, rfl, hIL, fun a h => (by cases h; exact ⟨hgl, hlt⟩), fun h => (by cases h)⟩

/-- append onto nil, at a step of a region that draws: whatever is appended. -/
theorem step_append_nil {P : Program} {w : World} {ops : Array Oper} {o : Oper} {a : Act} {K : Act → World → Prop} {Q : Exit → Act → World → Prop} {E : Prop} (hgd : o.guard = none) (s x : Operand) (t : TypeId)
    (ho : o.op = .call { callee := .builtin .append, args := #[s, x], argTypes := #[t, t] })
    (e : TypeId) (i : TypeInfo) (ht : P.underlying t = some (.slice e)) (hi : P.info? e = some i ∧ i.zero = some (.int .i64 0) ∧ i.size = 1 ∧ i.bytes = 8)
    (L : List Int) (hs : a.eval s = .slice none 0 0) (xa : Option Addr) (m c : Nat) (hm : L.length = m)
    (hx : a.eval x = .slice xa m c) (hM : IntsAt w xa L) (hc : xa = none → c = 0) (hl : m ≤ 1000000)
    (h : ∀ la lc w', GivesI w w' (.slice la m lc) L → Keep [] w w' → K (a.put o.dst (.slice la m lc)) w') :
    if Region.wanted o (yielded ops a.tmps) = true then Oper.wp P o a w K Q else E := by
  have hw : Region.wanted o (yielded ops a.tmps) = true := by simp [Region.wanted, hgd]
  rw [if_pos hw]
  obtain ⟨h1, h2, h3, h4⟩ := hi
  subst hm
  cases xa with
  | none =>
    have h0 : L = [] := by
      rcases Nat.eq_zero_or_pos L.length with h0 | h0
      · exact List.length_eq_zero_iff.1 h0
      · obtain ⟨_, _, e, _⟩ := hM.cells h0; cases e
    subst h0
    obtain rfl := hc rfl
    have hrun := run_append_owned_none (P := P) (w := w) w.heap.size t o.type e i 1 ht h1 (.slice none 0 0) 0 [] (World.ownsRow_nil _ _ _ _)
    unfold Oper.wp
    simp at hx
    simp [execOp, ho, resolve, invoke, builtin, hs, hx, hrun, Result.andThen]
    exact h _ _ _ ⟨none, 0, rfl, IntsAt.nil _ _, fun _ => rfl, fun a e => by cases e⟩ (Keep.refl _ _)
  | some ad =>
    refine wp_append_own w s x t ho w.heap.size e i (.int .i64 0) 1 8 ht h1 h2 h3 h4 rfl (by decide) (.slice none 0 0) 0 [] hs (World.ownsRow_nil _ _ _ _) ad L.length c (ints L) hx (by rw [ints_length]; omega) ?_ (ints_one _) (by unfold maxLen; omega) (by omega) (Nat.le_refl _) ?_
    · intro j u hu
      have hj : j < L.length := by
        rcases Nat.lt_or_ge j L.length with hj | hj
        · exact hj
        · rw [List.getElem?_eq_none (by rw [ints_length]; exact hj)] at hu; cases hu
      obtain ⟨b, off, e1, _, hcell⟩ := hM.cells (by omega)
      cases e1
      rw [ints_get L j hj] at hu
      rw [Go.WideShapes.add_plain, hcell j hj]; exact hu
    · intro v' w' hown' hg _
      rw [List.nil_append] at hown'
      have hk := (Keep.refl [] w).grown hg (fun k e => by simp [Value.ownBlock] at e)
      have hfz : ∀ g, v'.ownBlock = some g → ∃ arr t, w'.heap[g]? = some (.cells arr t (0, 0)) := by
        intro g e
        rcases hown'.2 with ⟨e1, _⟩ | ⟨g', cap, cur, e1, _, e3, _⟩
        · subst e1; simp [Value.ownBlock] at e
        · subst e1; simp [Value.ownBlock] at e; subst e; exact ⟨_, _, e3⟩
      rcases own_ints hown' (fun i => ⟨hM.low i, hM.high i⟩) with ⟨e1, e2, _⟩ | ⟨g, cap, e1, _, h5, h6, h7⟩
      · subst e1 e2; exact h none 0 w' ⟨none, 0, rfl, IntsAt.nil _ _, fun _ => rfl, fun a e => by cases e⟩ hk
      · subst e1; exact h (some ⟨g, 0, none⟩) cap w' ⟨some ⟨g, 0, none⟩, cap, rfl, h7, (fun e => by cases e), (fun a e => by cases e; exact ⟨h5, h6, hfz g rfl⟩)⟩ hk

theorem GivesI.later {S : List Nat} {w0 w1 w2 w3 : World} {v : Value} {L : List Int} (h : GivesI w1 w2 v L) (K : Keep S w2 w3) (hS : ∀ k, k ∈ S → k < w1.heap.size) (h0 : w0.heap.size ≤ w1.heap.size) : GivesI w0 w3 v L := by
  obtain ⟨la, lc, rfl, h1, h2, h3⟩ := h
  exact ⟨la, lc, rfl, h1.keep K (fun _ a e k => by have := hS _ k; have := (h3 a e).1; omega), h2, fun a e => ⟨by have := (h3 a e).1; omega, Nat.lt_of_lt_of_le (h3 a e).2.1 K.size, by
    obtain ⟨arr, t, hb⟩ := (h3 a e).2.2
    exact ⟨arr, t, K.blk hb (fun k => by have := hS _ k; have := (h3 a e).1; omega)⟩⟩⟩

set_option maxHeartbeats 800000 in
theorem copied_any (f : Int) (ao : Option Addr) (n c : Nat) (L : List Int) (w : World) (hA : IntsAt w ao L) (hc : ao = none → c = 0) (hn : L.length = n) (hb : n ≤ 1000000) :
    Calls Try.prog 70 #[.agg #[.int .i64 f, .slice ao n c]] w fun e w' => ∃ v, e = .returned (.agg #[.int .i64 f, v]) ∧ GivesI w w' v L ∧ Keep [] w w' := by
  obtain ⟨i0, hi, hz0, hz1, hz2⟩ := info_parts Try.infoIntC
  have hI : Hid (Try.prog.info? 3 = some i0 ∧ i0.zero = some (.int .i64 0) ∧ i0.size = 1 ∧ i0.bytes = 8) := ⟨hi, hz0, hz1, hz2⟩
  clear hi hz0 hz1 hz2
  have hK1 := (Keep.alloc [] w (.cells #[.int .i64 f, .slice ao n c] 94)).trans (Keep.alloc [] (w.alloc (.cells #[.int .i64 f, .slice ao n c] 94)) (.cells #[.int .i64 0, .slice none 0 0] 94))
  have hx1 := (Keep.alloc [] (w.alloc (.cells #[.int .i64 f, .slice ao n c] 94)) (.cells #[.int .i64 0, .slice none 0 0] 94)).blk (heap_alloc_new w (.cells #[.int .i64 f, .slice ao n c] 94)) (by simp)
  have hx2 := heap_alloc_new (w.alloc (.cells #[.int .i64 f, .slice ao n c] 94)) (.cells #[.int .i64 0, .slice none 0 0] 94)
  have hs2 : (w.alloc (.cells #[.int .i64 f, .slice ao n c] 94)).heap.size = w.heap.size + 1 := by simp
  rw [hs2] at hx2
  have HA := (show Hid (IntsAt w ao L) from hA)
  have HN := (show Hid (L.length = n) from hn)
  have HC := (show Hid (ao = none → c = 0) from hc)
  clear hA hn hs2 hc
  go_enter Try.func70, Try.ntmps70
  go_wp2
  generalize (w.alloc (.cells #[.int .i64 f, .slice ao n c] 94)).alloc (.cells #[.int .i64 0, .slice none 0 0] 94) = w2 at *
  obtain ⟨bx, hbx⟩ : ∃ bx, w.heap.size = bx := ⟨_, rfl⟩
  rw [hbx] at hx1 hx2 ⊢
  obtain ⟨bw, hbw⟩ : ∃ bw, bx + 1 = bw := ⟨_, rfl⟩
  rw [hbw] at hx2 ⊢
  have hne : bx ≠ bw := by omega
  have c0 : w2.cell? ⟨bx, 0, none⟩ = some (.int .i64 f) := by simp [World.cell?, hx1]
  have c1 : w2.cell? ⟨bx, 1, none⟩ = some (.slice ao n c) := by simp [World.cell?, hx1]
  have hlx := lt_of_block hx1
  have hA2 : ∀ k, IntsAt (w2.drewN k) ao L := fun k => (HA.out.keep hK1 (by simp [Off])).keep (Keep.drewN [] w2 k) (by simp [Off])
  have hA3 : IntsAt w2.drew ao L := (HA.out.keep hK1 (by simp [Off])).keep (Keep.drew [] w2) (by simp [Off])
  go_region_held3 (fun wz => wz.cell? ⟨bx, 0, none⟩ = some (.int .i64 f) ∧ wz.cell? ⟨bx, 1, none⟩ = some (.slice ao n c)) (go_keep) (first | (refine step_append_nil rfl (.const (.slice none 0 0)) (.tmp 6) 28 rfl 3 i0 Try.underlying28 hI.out L rfl ao n c HN.out rfl hA3 HC.out hb ?_; intro la lc w3 HG hK3; have d1 := (hK3.cell hlx (by simp) 0).trans c0; have d2 := (hK3.cell hlx (by simp) 1).trans c1; have hx3 := hK3.blk hx2 (by simp); have e0 : w3.cell? ⟨bw, 0, none⟩ = some (.int .i64 0) := (by simp [World.cell?, hx3]); have e1 : w3.cell? ⟨bw, 1, none⟩ = some (.slice none 0 0) := (by simp [World.cell?, hx3]); have f0 : w3.frozen? ⟨bw, 0, none⟩ = false := (by simp [World.frozen?, hx3]); have f1 : w3.frozen? ⟨bw, 1, none⟩ = false := (by simp [World.frozen?, hx3]); have hk4 : Keep [bw] w3 ((w3.setCell ⟨bw, 0, none⟩ (.int .i64 f)).setCell ⟨bw, 1, none⟩ (.slice la n lc)) := (Keep.setCell _ _ (by simp)).trans (Keep.setCell _ _ (by simp)); have g0 := (hk4.cell (Nat.lt_of_lt_of_le hlx hK3.size) (by simpa using hne) 0).trans d1; have g1 := (hk4.cell (Nat.lt_of_lt_of_le hlx hK3.size) (by simpa using hne) 1).trans d2))
  have z1 := heap_setCell_same w3 bw 0 _ _ (.int .i64 f) hx3
  have z2 := heap_setCell_same _ bw 1 _ _ (.slice la n lc) z1
  have hlw := lt_of_block hx2
  have hsz := hK1.size
  go_wp2
  refine bodyPost_ret (results_cell_row rfl _ _ bw 94 #[.int .i64 f, .slice la n lc] (0, 0) _ rfl (by simpa using z2) Try.underlying94 rfl (by kernel_rfl)) rfl ?_
  refine ⟨_, rfl, HG.later hk4 (by simpa using hlw) (by simpa using hsz), ?_⟩
  exact (((hK1.mono (T := [bw]) (by simp)).trans ((Keep.drew [bw] w2).trans (hK3.mono (by simp)))).trans hk4).drop (by simp; omega)

/-- A class in memory. -/
structure CV where
  f : Int
  ao : Option Addr
  cp : Nat
  L : List Int
def CV.cells (c : CV) : List Value := [.int .i64 c.f, .slice c.ao c.L.length c.cp]
def flat (cs : List CV) : List Value := cs.flatMap CV.cells
theorem flat_length (cs : List CV) : (flat cs).length = cs.length * 2 := by
  induction cs with
  | nil => rfl
  | cons c cs ih => simp [flat, CV.cells] at *; omega
theorem flat_app (cs ds : List CV) : flat (cs ++ ds) = flat cs ++ flat ds := by simp [flat]
theorem flat_one (c : CV) : flat [c] = c.cells := by simp [flat]
theorem flat_get0 (cs : List CV) (i : Nat) (c : CV) (h : cs[i]? = some c) : (flat cs)[i * 2]? = some (.int .i64 c.f) ∧ (flat cs)[i * 2 + 1]? = some (.slice c.ao c.L.length c.cp) := by
  induction cs generalizing i with
  | nil => simp at h
  | cons d cs ih =>
    cases i with
    | zero => simp at h; subst h; simp [flat, CV.cells]
    | succ i =>
      simp at h
      have := ih i h
      have e : flat (d :: cs) = .int .i64 d.f :: .slice d.ao d.L.length d.cp :: flat cs := by simp [flat, CV.cells]
      rw [e, show (i + 1) * 2 = i * 2 + 1 + 1 by omega, show i * 2 + 1 + 1 + 1 = (i * 2 + 1) + 1 + 1 by omega]
      simpa using this
/-- What a class is, wherever it lies. -/
def CV.d (c : CV) : Int × List Int := (c.f, c.L)

/-- Block tb is a table whose classes lie at va; all its blocks are of F. -/
structure TabAt (w : World) (tb : Nat) (va : Option Addr) (vc : Nat) (F : List Nat) (cs : List CV) : Prop where
  head : w.heap[tb]? = some (.cells #[.slice va cs.length vc] 103 (0, 0))
  own : w.ownsRow 0 94 2 (.slice va cs.length vc) cs.length (flat cs)
  vF : ∀ a, va = some a → a.block ∈ F ∧ a.block ≠ tb
  tF : tb ∈ F
  each : ∀ (i : Nat) (c : CV), cs[i]? = some c → IntsAt w c.ao c.L ∧ (c.ao = none → c.cp = 0) ∧ c.L.length ≤ 1000000 ∧ (∀ a, c.ao = some a → a.block ∈ F ∧ a.block ≠ tb ∧ ∀ b, va = some b → b.block ≠ a.block)
  lt : ∀ k, k ∈ F → k < w.heap.size
def IsTab (w : World) (tb : Nat) (F : List Nat) (ds : List (Int × List Int)) : Prop := ∃ va vc cs, TabAt w tb va vc F cs ∧ ds = cs.map CV.d

theorem TabAt.keep {S F : List Nat} {w w' : World} {tb vc : Nat} {va : Option Addr} {cs : List CV} (h : TabAt w tb va vc F cs) (K : Keep S w w') (hS : ∀ k, k ∈ F → k ∉ S) : TabAt w' tb va vc F cs :=
  { h with
    head := K.blk h.head (hS _ h.tF)
    own := by
      refine ⟨h.own.1, ?_⟩
      rcases h.own.2 with h1 | ⟨g, cap, cur, h1, h2, h3, h4⟩
      · exact .inl h1
      · refine .inr ⟨g, cap, cur, h1, h2, K.blk h3 (hS _ ?_), h4⟩
        cases h1; exact (h.vF _ rfl).1
    each := fun i c hc => by
      obtain ⟨h1, h2, h3, h4⟩ := h.each i c hc
      exact ⟨h1.keep K (fun _ a e => hS _ (h4 a e).1), h2, h3, h4⟩
    lt := fun k hk => Nat.lt_of_lt_of_le (h.lt k hk) K.size }
theorem IsTab.keep {S F : List Nat} {w w' : World} {tb : Nat} {ds : List (Int × List Int)} (h : IsTab w tb F ds) (K : Keep S w w') (hS : ∀ k, k ∈ F → k ∉ S) : IsTab w' tb F ds := by
  obtain ⟨va, vc, cs, h, e⟩ := h; exact ⟨va, vc, cs, h.keep K hS, e⟩
theorem TabAt.cell {F : List Nat} {w : World} {tb vc : Nat} {va : Option Addr} {cs : List CV} (h : TabAt w tb va vc F cs) : w.cell? ⟨tb, 0, none⟩ = some (.slice va cs.length vc) := by simp [World.cell?, h.head]
theorem TabAt.free {F : List Nat} {w : World} {tb vc : Nat} {va : Option Addr} {cs : List CV} (h : TabAt w tb va vc F cs) : w.frozen? ⟨tb, 0, none⟩ = false := by simp [World.frozen?, h.head]

/-- One class more. -/
theorem TabAt.added {F : List Nat} {w w4 : World} {tb vc g cap B lc : Nat} {va la : Option Addr} {cs : List CV} {f : Int} {L : List Int} {o : Obj} (h : TabAt w tb va vc F cs) (hB : ∀ k, k ∈ F → k < B)
    (hI : IntsAt w la L) (hlc : la = none → lc = 0) (hL : L.length ≤ 1000000) (hla : ∀ a, la = some a → B ≤ a.block ∧ a.block < w.heap.size) (hBw : B ≤ w.heap.size)
    (hown : w4.ownsRow 0 94 2 (.slice (some ⟨g, 0, none⟩) (cs.length + 1) cap) (cs.length + 1) (flat cs ++ [.int .i64 f, .slice la L.length lc]))
    (hg : (w.alloc o).grownBy w4 (Value.slice va cs.length vc).ownBlock) (hat : (Value.slice va cs.length vc).ownBlock = some g ∨ g = w.heap.size + 1) (hlt : g < w4.heap.size) :
    TabAt (w4.setCell ⟨tb, 0, none⟩ (.slice (some ⟨g, 0, none⟩) (cs.length + 1) cap)) tb (some ⟨g, 0, none⟩) cap (g :: (la.toList.map (·.block) ++ F)) (cs ++ [⟨f, la, lc, L⟩]) ∧
      Keep F w (w4.setCell ⟨tb, 0, none⟩ (.slice (some ⟨g, 0, none⟩) (cs.length + 1) cap)) := by
  have htb := hB _ h.tF
  have own : ∀ k, (Value.slice va cs.length vc).ownBlock = some k → k ∈ F ∧ k ≠ tb ∧ ∃ a, va = some a ∧ a.block = k := by
    intro k hk
    cases va with
    | none => simp [Value.ownBlock] at hk
    | some a => simp [Value.ownBlock] at hk; subst hk; exact ⟨(h.vF a rfl).1, (h.vF a rfl).2, a, rfl, rfl⟩
  have gtb : g ≠ tb := by
    rcases hat with e | e
    · exact (own g e).2.1
    · omega
  have K1 : Keep F w w4 := ⟨hg.os, hg.tape, hg.output, Nat.le_trans (by simp) hg.size, fun k hk hS =>
    (hg.block k (by simp; omega) (fun e => hS (own k e.symm).1)).trans (Below.heap_alloc _ _ _ hk)⟩
  have K0 : Keep [] w (w.alloc o) := Keep.alloc [] w o
  have K2 : Keep [tb] w4 (w4.setCell ⟨tb, 0, none⟩ (.slice (some ⟨g, 0, none⟩) (cs.length + 1) cap)) := Keep.setCell _ _ (by simp)
  have ints : ∀ (ao : Option Addr) (M : List Int), IntsAt w ao M → (∀ a, ao = some a → a.block ≠ tb ∧ (Value.slice va cs.length vc).ownBlock ≠ some a.block) → IntsAt (w4.setCell ⟨tb, 0, none⟩ (.slice (some ⟨g, 0, none⟩) (cs.length + 1) cap)) ao M := by
    intro ao M hM ha
    refine ⟨fun h0 => ?_, hM.low, hM.high⟩
    obtain ⟨b, off, rfl, hb, hc⟩ := hM.cells h0
    obtain ⟨h1, h2⟩ := ha _ rfl
    have e : (w4.setCell ⟨tb, 0, none⟩ (.slice (some ⟨g, 0, none⟩) (cs.length + 1) cap)).heap[b]? = w.heap[b]? :=
      (K2.block b (Nat.lt_of_lt_of_le hb K1.size) (by simpa using h1)).trans ((hg.block b (by simp; omega) (fun e => h2 e.symm)).trans (Below.heap_alloc _ _ _ hb))
    exact ⟨b, off, rfl, Nat.lt_of_lt_of_le (Nat.lt_of_lt_of_le hb K1.size) K2.size, fun i hi => (World.cell?_of_block (w := w) e).trans (hc i hi)⟩
  have far : ∀ k, B ≤ k → (Value.slice va cs.length vc).ownBlock ≠ some k := fun k hk e => by have := hB _ (own k e).1; omega
  have hl : (cs ++ [(⟨f, la, lc, L⟩ : CV)]).length = cs.length + 1 := by simp
  have htbw : w4.heap[tb]? = some (.cells #[.slice va cs.length vc] 103 (0, 0)) := by
    rw [← h.head]
    exact (hg.block tb (by simp; omega) (fun e => (own tb e.symm).2.1 rfl)).trans (Below.heap_alloc _ _ _ (by omega))
  refine ⟨⟨?_, ?_, ?_, ?_, ?_, ?_⟩, K1.trans (K2.mono (by simpa using h.tF))⟩
  · rw [hl]
    have := heap_setCell_same w4 tb 0 _ _ (.slice (some ⟨g, 0, none⟩) (cs.length + 1) cap) htbw
    simpa using this
  · rw [hl, flat_app, flat_one]
    refine ⟨hown.1, ?_⟩
    rcases hown.2 with ⟨h1, _⟩ | ⟨g', cap', cur, h1, h2, h3, h4⟩
    · cases h1
    · cases h1
      exact .inr ⟨g, cap, cur, rfl, h2, K2.blk h3 (by simpa using gtb), h4⟩
  · intro a e; cases e; exact ⟨by simp, gtb⟩
  · simp [h.tF]
  · intro i c hc
    rcases Nat.lt_trichotomy i cs.length with hi | hi | hi
    · rw [List.getElem?_append_left hi] at hc
      obtain ⟨h1, h2, h3, h4⟩ := h.each i c hc
      have h5 : ∀ a, c.ao = some a → (Value.slice va cs.length vc).ownBlock ≠ some a.block := fun a e e' => by
        obtain ⟨b, e1, e2⟩ := (own _ e').2.2
        exact (h4 a e).2.2 b e1 e2
      refine ⟨ints _ _ h1 (fun a e => ⟨(h4 a e).2.1, h5 a e⟩), h2, h3, fun a e => ⟨by simp [(h4 a e).1], (h4 a e).2.1, fun b eb => ?_⟩⟩
      cases eb
      show g ≠ a.block
      rcases hat with e' | e'
      · intro eg; exact h5 a e (by rw [e', eg])
      · have := hB _ (h4 a e).1; omega
    · subst hi
      have : c = ⟨f, la, lc, L⟩ := by simpa using hc.symm
      subst this
      refine ⟨ints _ _ hI (fun a e => ⟨by have := (hla a e).1; omega, far _ (hla a e).1⟩), hlc, hL, fun a e => ⟨?_, by have := (hla a e).1; omega, fun b eb => ?_⟩⟩
      · have e' : la = some a := e
        simp [e']
      · cases eb
        show g ≠ a.block
        have := hla a e
        rcases hat with e' | e'
        · intro eg; exact far a.block this.1 (by rw [e', eg])
        · omega
    · rw [List.getElem?_eq_none (by simp; omega)] at hc; cases hc
  · intro k hk
    have hs := K2.size
    have hs1 := K1.size
    simp at hk
    rcases hk with rfl | ⟨a, e, rfl⟩ | hk
    · omega
    · have := (hla a e).2; omega
    · have := hB k hk; omega
theorem IsTab.lt {F : List Nat} {w : World} {tb : Nat} {ds : List (Int × List Int)} (h : IsTab w tb F ds) : ∀ k, k ∈ F → k < w.heap.size := by
  obtain ⟨va, vc, cs, h, e⟩ := h; exact h.lt
theorem IsTab.mem {F : List Nat} {w : World} {tb : Nat} {ds : List (Int × List Int)} (h : IsTab w tb F ds) : tb ∈ F := by
  obtain ⟨va, vc, cs, h, e⟩ := h; exact h.tF

/-! ### The calls -/
set_option maxHeartbeats 400000 in
theorem tnew (w : World) : Calls Try.prog 26 #[] w fun e w' => ∃ tb, e = .returned (.pointer (some ⟨tb, 0, none⟩)) ∧ IsTab w' tb [tb] [] ∧ Keep [] w w' ∧ w.heap.size ≤ tb := by
  go_enter Try.func26, Try.ntmps26
  go_wp2
  go_ret
  refine ⟨w.heap.size, rfl, ⟨none, 0, [], ⟨heap_alloc_new w _, World.ownsRow_nil _ _ _ _, (fun a e => by cases e), (by simp), (fun i c h => by simp at h), ?_⟩, rfl⟩, Keep.alloc [] _ _, Nat.le_refl _⟩
  intro k hk
  simp at hk
  simp [hk]
set_option maxHeartbeats 400000 in
theorem tclasses (tb : Nat) (F : List Nat) (ds : List (Int × List Int)) (w : World) (h : IsTab w tb F ds) :
    Calls Try.prog 69 #[.pointer (some ⟨tb, 0, none⟩)] w fun e w' => e = .returned (.int .i64 ds.length) ∧ w = w' := by
  obtain ⟨va, vc, cs, h, rfl⟩ := h
  rw [List.length_map]
  have hc := h.cell
  clear h
  go_enter Try.func69, Try.ntmps69
  go_wp2
  go_ret
  exact ⟨rfl, rfl⟩
set_option maxHeartbeats 400000 in
theorem tclasses_nil (w : World) :
    Calls Try.prog 69 #[.pointer none] w fun e w' => e = .returned (.int .i64 0) ∧ w = w' := by
  go_enter Try.func69, Try.ntmps69
  go_wp2
  go_ret
  exact ⟨rfl, rfl⟩

end Go.Proofs.Ytgpidokklhjfdaa

/-
  Class, Add and Of of package class.
-/
namespace Go.Proofs.Ytgpidokklhjfdaa
open Go.RowKit

set_option maxHeartbeats 800000 in
theorem tclass_no (tb : Nat) (F : List Nat) (ds : List (Int × List Int)) (id : Int) (w : World) (h : IsTab w tb F ds) (hid : id < 1 ∨ (ds.length : Int) < id) :
    Calls Try.prog 48 #[.pointer (some ⟨tb, 0, none⟩), .int .i64 id] w fun e w' => e = .returned (.tuple #[.agg #[.int .i64 0, .slice none 0 0], .int .i64 2]) ∧ Keep [] w w' := by
  have h1 := h.keep (Keep.alloc [] w (.cells #[.int .i64 0, .slice none 0 0] 94)) (by simp)
  have hx := heap_alloc_new w (.cells #[.int .i64 0, .slice none 0 0] 94)
  have hK := Keep.alloc [] w (.cells #[.int .i64 0, .slice none 0 0] 94)
  by_cases hlo : id < 1
  · clear h1 hid
    go_enter Try.func48, Try.ntmps48
    go_wp2
    refine bodyPost_ret (results_cell_tmp_row rfl _ _ w.heap.size 94 #[.int .i64 0, .slice none 0 0] (0, 0) _ rfl hx Try.underlying94 rfl (by kernel_rfl)) rfl ?_
    exact ⟨rfl, hK⟩
  · have hd : decide (id < 1) = false := by rw [decide_eq_false_iff_not]; omega
    have hg : (ds.length : Int) < id := by omega
    obtain ⟨n, hn⟩ : ∃ n, ds.length = n := ⟨_, rfl⟩
    have HN := (show Hid (ds.length = n) from hn)
    rw [hn] at hg
    clear hid hn
    go_enter Try.func48, Try.ntmps48
    go_wp2_with (first | (go_at_call 69; refine (tclasses tb F ds _ h1).mono ?_; rw [HN.out]; rintro e w' ⟨rfl, rfl⟩))
    refine bodyPost_ret (results_cell_tmp_row rfl _ _ w.heap.size 94 #[.int .i64 0, .slice none 0 0] (0, 0) _ rfl hx Try.underlying94 rfl (by kernel_rfl)) rfl ?_
    exact ⟨rfl, hK⟩
set_option maxHeartbeats 800000 in
theorem tclass_nil (id : Int) (w : World) :
    Calls Try.prog 48 #[.pointer none, .int .i64 id] w fun e w' => e = .returned (.tuple #[.agg #[.int .i64 0, .slice none 0 0], .int .i64 2]) ∧ Keep [] w w' := by
  have hx := heap_alloc_new w (.cells #[.int .i64 0, .slice none 0 0] 94)
  have hK := Keep.alloc [] w (.cells #[.int .i64 0, .slice none 0 0] 94)
  by_cases hlo : id < 1
  · go_enter Try.func48, Try.ntmps48
    go_wp2
    refine bodyPost_ret (results_cell_tmp_row rfl _ _ w.heap.size 94 #[.int .i64 0, .slice none 0 0] (0, 0) _ rfl hx Try.underlying94 rfl (by kernel_rfl)) rfl ?_
    exact ⟨rfl, hK⟩
  · have hd : decide (id < 1) = false := by rw [decide_eq_false_iff_not]; omega
    have hg : (0 : Int) < id := by omega
    go_enter Try.func48, Try.ntmps48
    go_wp2_with (first | (go_at_call 69; refine (tclasses_nil _).mono ?_; rintro e w' ⟨rfl, rfl⟩))
    refine bodyPost_ret (results_cell_tmp_row rfl _ _ w.heap.size 94 #[.int .i64 0, .slice none 0 0] (0, 0) _ rfl hx Try.underlying94 rfl (by kernel_rfl)) rfl ?_
    exact ⟨rfl, hK⟩

set_option maxHeartbeats 1600000 in
theorem tclass_yes (tb i : Nat) (F : List Nat) (ds : List (Int × List Int)) (f : Int) (L : List Int) (w : World) (h : IsTab w tb F ds) (hi : ds[i]? = some (f, L)) (hl : ds.length ≤ 1000000) :
    Calls Try.prog 48 #[.pointer (some ⟨tb, 0, none⟩), .int .i64 ((i : Int) + 1)] w fun e w' => ∃ v, e = .returned (.tuple #[.agg #[.int .i64 f, v], .int .i64 0]) ∧ GivesI w w' v L ∧ Keep [] w w' := by
  have h1 := h.keep (Keep.alloc [] w (.cells #[.int .i64 0, .slice none 0 0] 94)) (by simp)
  have hx := heap_alloc_new w (.cells #[.int .i64 0, .slice none 0 0] 94)
  have hK := Keep.alloc [] w (.cells #[.int .i64 0, .slice none 0 0] 94)
  obtain ⟨va, vc, cs, h2, e⟩ := h1
  obtain ⟨n, hn⟩ : ∃ n, cs.length = n := ⟨_, rfl⟩
  have hn2 : ds.length = n := by rw [e, List.length_map]; exact hn
  have HN := (show Hid (ds.length = n) from hn2)
  have hin : i < n := by
    rw [← hn2]
    rcases Nat.lt_or_ge i ds.length with h | h
    · exact h
    · rw [List.getElem?_eq_none h] at hi; cases hi
  obtain ⟨c, hc⟩ : ∃ c, cs[i]? = some c := ⟨cs[i], by simp [hn, hin]⟩
  have hd : c.d = (f, L) := by
    rw [e, List.getElem?_map, hc] at hi
    simpa using hi
  obtain ⟨cf, ca, cc, cL⟩ := c
  simp [CV.d] at hd
  obtain ⟨rfl, rfl⟩ := hd
  obtain ⟨hI, hcc, hcl, hcb⟩ := h2.each i _ hc
  obtain ⟨q0, q1⟩ := flat_get0 cs i _ hc
  have hlen : n ≤ 1000000 := by omega
  have hcell := h2.cell
  rw [hn] at hcell
  rcases h2.own.2 with ⟨_, h0⟩ | ⟨g, cap, cur, ev, _, hg, _, hcap, hsz, htake⟩
  · omega
  cases ev
  have hcu : ∀ j u, (flat cs)[j]? = some u → (w.alloc (.cells #[.int .i64 0, .slice none 0 0] 94)).cell? ⟨g, j, none⟩ = some u := by
    intro j u hu
    have hj : j < cs.length * 2 := by
      rcases Nat.lt_or_ge j (cs.length * 2) with h | h
      · exact h
      · rw [List.getElem?_eq_none (by rw [flat_length]; exact h)] at hu; cases hu
    rw [← htake, List.getElem?_take, if_pos hj] at hu
    have hu' : cur[j]? = some u := by simpa using hu
    simp [World.cell?, hg, hu']
  have x0 := hcu _ _ q0
  have x1 := hcu _ _ q1
  have HT := (show Hid (IsTab (w.alloc (.cells #[.int .i64 0, .slice none 0 0] 94)) tb F ds) from ⟨_, _, cs, h2, e⟩)
  have HI := (show Hid (IntsAt (w.alloc (.cells #[.int .i64 0, .slice none 0 0] 94)) ca cL) from hI)
  have HCC := (show Hid (ca = none → cc = 0) from hcc)
  have hd1 : decide ((i : Int) + 1 < 1) = false := by rw [decide_eq_false_iff_not]; omega
  have hd2 : decide ((n : Int) < (i : Int) + 1) = false := by rw [decide_eq_false_iff_not]; omega
  have hs1 : (i : Int) + 1 - 1 = i := by omega
  have hb0 : (0 : Int) ≤ (i : Int) := by omega
  have hb1 : (i : Int) < n := by omega
  obtain ⟨lL, hlL⟩ : ∃ lL, cL.length = lL := ⟨_, rfl⟩
  have HL := (show Hid (cL.length = lL) from hlL)
  have x1' : (w.alloc (.cells #[.int .i64 0, .slice none 0 0] 94)).cell? ⟨g, i * 2 + 1, none⟩ = some (.slice ca lL cc) := by rw [x1]; simp [hlL]
  rw [hlL] at hcl
  simp only at x0
  clear h h2 hI hcc hcb q0 q1 hg htake hcu hc hi e hn hn2 hl hlL x1 hsz hcap
  go_enter Try.func48, Try.ntmps48
  go_wp2_with (first | (go_at_call 69; refine (tclasses tb F ds _ HT.out).mono ?_; rw [HN.out]; rintro e w' ⟨rfl, rfl⟩) | (go_at_call 70; refine (copied_any cf ca lL cc cL _ HI.out HCC.out HL.out hcl).mono ?_; rintro e w3 ⟨v, rfl, HG, hK3⟩; obtain ⟨la, lc, rfl, hG1, hG2, hG3⟩ := HG; have hx3 := hK3.blk hx (by simp); have e0 : w3.cell? ⟨w.heap.size, 0, none⟩ = some (.int .i64 0) := (by simp [World.cell?, hx3]); have e1 : w3.cell? ⟨w.heap.size, 1, none⟩ = some (.slice none 0 0) := (by simp [World.cell?, hx3]); have f0 : w3.frozen? ⟨w.heap.size, 0, none⟩ = false := (by simp [World.frozen?, hx3]); have f1 : w3.frozen? ⟨w.heap.size, 1, none⟩ = false := (by simp [World.frozen?, hx3])))
  have z1 := heap_setCell_same w3 w.heap.size 0 _ _ (.int .i64 cf) hx3
  have z2 := heap_setCell_same _ w.heap.size 1 _ _ (.slice la cL.length lc) z1
  have hk4 : Keep [w.heap.size] w3 ((w3.setCell ⟨w.heap.size, 0, none⟩ (.int .i64 cf)).setCell ⟨w.heap.size, 1, none⟩ (.slice la cL.length lc)) := (Keep.setCell _ _ (by simp)).trans (Keep.setCell _ _ (by simp))
  have HG : GivesI (w.alloc (.cells #[.int .i64 0, .slice none 0 0] 94)) w3 (.slice la cL.length lc) cL := ⟨la, lc, rfl, hG1, hG2, hG3⟩
  refine bodyPost_ret (results_cell_tmp_row rfl _ _ w.heap.size 94 #[.int .i64 cf, .slice la cL.length lc] (0, 0) _ rfl (by simpa using z2) Try.underlying94 rfl (by kernel_rfl)) rfl ?_
  exact ⟨_, rfl, HG.later hk4 (by simp) (by simp), (((hK.mono (T := [w.heap.size]) (by simp)).trans (hK3.mono (by simp))).trans hk4).drop (by simp)⟩

/-- The same, of a number that is given as one. -/
theorem tclass_at (tb i : Nat) (F : List Nat) (ds : List (Int × List Int)) (f id : Int) (L : List Int) (w : World) (h : IsTab w tb F ds) (hi : ds[i]? = some (f, L)) (hl : ds.length ≤ 1000000) (hid : id = (i : Int) + 1) :
    Calls Try.prog 48 #[.pointer (some ⟨tb, 0, none⟩), .int .i64 id] w fun e w' => ∃ la lc, e = .returned (.tuple #[.agg #[.int .i64 f, .slice la L.length lc], .int .i64 0]) ∧ GivesI w w' (.slice la L.length lc) L ∧ Keep [] w w' := by
  subst hid
  refine (tclass_yes tb i F ds f L w h hi hl).mono ?_
  rintro e w' ⟨v, rfl, HG, hK⟩
  obtain ⟨la, lc, rfl, h1, h2, h3⟩ := HG
  exact ⟨la, lc, rfl, ⟨la, lc, rfl, h1, h2, h3⟩, hK⟩

set_option maxHeartbeats 800000 in
theorem tadd_nil (v : Value) (f : Int) (ao : Option Addr) (n c : Nat) (w : World) (hv : v = .agg #[.int .i64 f, .slice ao n c]) :
    Calls Try.prog 65 #[.pointer none, v] w fun e w' => e = .returned (.tuple #[.int .i64 0, .int .i64 2]) ∧ Keep [] w w' := by
  subst hv
  have hK := Keep.alloc [] w (.cells #[.int .i64 f, .slice ao n c] 94)
  go_enter Try.func65, Try.ntmps65
  go_wp2
  go_ret2
  exact ⟨rfl, hK⟩
set_option maxRecDepth 100000 in
set_option maxHeartbeats 800000 in
theorem tadd_arg (tb : Nat) (f : Int) (ao : Option Addr) (n c : Nat) (L : List Int) (w : World) (hA : IntsAt w ao L) (hn : L.length = n) (hb : n ≤ 1000000) (hm : mayB f L = false) :
    Calls Try.prog 65 #[.pointer (some ⟨tb, 0, none⟩), .agg #[.int .i64 f, .slice ao n c]] w fun e w' => e = .returned (.tuple #[.int .i64 0, .int .i64 1]) ∧ Keep [] w w' := by
  have hK := Keep.alloc [] w (.cells #[.int .i64 f, .slice ao n c] 94)
  have hx := heap_alloc_new w (.cells #[.int .i64 f, .slice ao n c] 94)
  have HA := (show Hid (IntsAt (w.alloc (.cells #[.int .i64 f, .slice ao n c] 94)) ao L) from hA.keep hK (by simp [Off]))
  have HN := (show Hid (L.length = n) from hn)
  have HM := (show Hid (mayB f L = false) from hm)
  clear hA hn hm
  go_enter Try.func65, Try.ntmps65
  go_wp2_with (first | (go_at_call 81; refine (may_any f ao n c L _ HA.out HN.out (by omega)).mono ?_; rw [HM.out]; rintro e w1 ⟨rfl, hK1⟩))
  go_ret2
  exact ⟨rfl, hK.trans hK1⟩
set_option maxRecDepth 100000 in
set_option maxHeartbeats 800000 in
theorem tadd_full (tb : Nat) (F : List Nat) (ds : List (Int × List Int)) (f : Int) (ao : Option Addr) (n c : Nat) (L : List Int) (w : World) (h : IsTab w tb F ds) (hA : IntsAt w ao L) (hn : L.length = n) (hb : n ≤ 1000000) (hm : mayB f L = true) (hf : 256 ≤ ds.length) :
    Calls Try.prog 65 #[.pointer (some ⟨tb, 0, none⟩), .agg #[.int .i64 f, .slice ao n c]] w fun e w' => e = .returned (.tuple #[.int .i64 0, .int .i64 3]) ∧ Keep [] w w' := by
  have hK := Keep.alloc [] w (.cells #[.int .i64 f, .slice ao n c] 94)
  have hx := heap_alloc_new w (.cells #[.int .i64 f, .slice ao n c] 94)
  have HA := (show Hid (IntsAt (w.alloc (.cells #[.int .i64 f, .slice ao n c] 94)) ao L) from hA.keep hK (by simp [Off]))
  have HN := (show Hid (L.length = n) from hn)
  have HM := (show Hid (mayB f L = true) from hm)
  have HT := (show Hid (IsTab (w.alloc (.cells #[.int .i64 f, .slice ao n c] 94)) tb F ds) from h.keep hK (by simp))
  clear hA hn hm h
  go_enter Try.func65, Try.ntmps65
  go_wp2_with (first | (go_at_call 81; refine (may_any f ao n c L _ HA.out HN.out (by omega)).mono ?_; rw [HM.out]; rintro e w1 ⟨rfl, hK1⟩; obtain ⟨va, vc, cs, h1, e1⟩ := HT.out.keep hK1 (by simp); have hcell := h1.cell; have hlen : cs.length = ds.length := (by rw [e1, List.length_map]); rw [hlen] at hcell; generalize ds.length = dl at hcell hf; clear h1 e1 hlen))
  go_ret2
  exact ⟨rfl, hK.trans hK1⟩
theorem TabAt.far4 {F : List Nat} {w w4 : World} {tb vc : Nat} {va : Option Addr} {cs : List CV} {o : Obj} (h : TabAt w tb va vc F cs) (hg : (w.alloc o).grownBy w4 (Value.slice va cs.length vc).ownBlock) :
    w4.cell? ⟨tb, 0, none⟩ = some (.slice va cs.length vc) ∧ w4.frozen? ⟨tb, 0, none⟩ = false := by
  have htb := h.lt _ h.tF
  have e : w4.heap[tb]? = some (.cells #[.slice va cs.length vc] 103 (0, 0)) := by
    rw [← h.head]
    refine (hg.block tb (by simp; omega) (fun e => ?_)).trans (Below.heap_alloc _ _ _ htb)
    cases va with
    | none => simp [Value.ownBlock] at e
    | some a => simp [Value.ownBlock] at e; exact (h.vF a rfl).2 e.symm
  exact ⟨by simp [World.cell?, e], by simp [World.frozen?, e]⟩
theorem oneCells (f : Int) (la : Option Addr) (n lc : Nat) : ∀ u ∈ [Value.int .i64 f, .slice la n lc], u.oneCell' = true := by
  intro u hu
  simp at hu
  rcases hu with rfl | rfl <;> rfl

set_option maxRecDepth 100000 in
set_option maxHeartbeats 3200000 in
theorem tadd_yes (tb : Nat) (F : List Nat) (ds : List (Int × List Int)) (f : Int) (ao : Option Addr) (n c : Nat) (L : List Int) (w : World) (h : IsTab w tb F ds) (hA : IntsAt w ao L) (hc : ao = none → c = 0) (hn : L.length = n) (hb : n ≤ 1000000) (hm : mayB f L = true) (hf : ds.length < 256) :
    Calls Try.prog 65 #[.pointer (some ⟨tb, 0, none⟩), .agg #[.int .i64 f, .slice ao n c]] w fun e w' => e = .returned (.tuple #[.int .i64 ((ds.length : Int) + 1), .int .i64 0]) ∧ (∃ F', IsTab w' tb F' (ds ++ [(f, L)]) ∧ ∀ k, k ∈ F' → k ∈ F ∨ w.heap.size ≤ k) ∧ Keep F w w' := by
  obtain ⟨i0, hi, hz0, hz1, hz2⟩ := info_parts Try.infoClass
  have hI : Hid (Try.prog.info? 94 = some i0 ∧ i0.zero = some (.agg #[.int .i64 0, .slice none 0 0]) ∧ i0.size = 2 ∧ i0.bytes = 32) := ⟨hi, hz0, hz1, hz2⟩
  clear hi hz0 hz1 hz2
  have hK := Keep.alloc [] w (.cells #[.int .i64 f, .slice ao n c] 94)
  have hx := heap_alloc_new w (.cells #[.int .i64 f, .slice ao n c] 94)
  have HA := (show Hid (IntsAt (w.alloc (.cells #[.int .i64 f, .slice ao n c] 94)) ao L) from hA.keep hK (by simp [Off]))
  have HN := (show Hid (L.length = n) from hn)
  have HC := (show Hid (ao = none → c = 0) from hc)
  have HM := (show Hid (mayB f L = true) from hm)
  have HT := (show Hid (IsTab (w.alloc (.cells #[.int .i64 f, .slice ao n c] 94)) tb F ds) from h.keep hK (by simp))
  have hB := h.lt
  have HB := (show Hid (∀ k, k ∈ F → k < w.heap.size) from hB)
  clear hA hn hm h hc hB
  go_enter Try.func65, Try.ntmps65
  go_wp2_with (first | (go_at_call 81; refine (may_any f ao n c L _ HA.out HN.out (by omega)).mono ?_; rw [HM.out]; rintro e w1 ⟨rfl, hK1⟩; obtain ⟨va, vc, cs, h1, e1⟩ := HT.out.keep hK1 (by simp); have hcell := h1.cell; have hlen : cs.length = ds.length := (by rw [e1, List.length_map]); have HLN := (show Hid (cs.length = ds.length) from hlen); rw [hlen] at hcell; have HTA := (show Hid (TabAt w1 tb va vc F cs) from h1); have HE := (show Hid (ds = cs.map CV.d) from e1); clear h1 e1 hlen))
  have hx1 := hK1.blk hx (by simp)
  have hbx : w.heap.size < w1.heap.size := lt_of_block hx1
  have hKw := hK.trans hK1
  have hIA := HA.out.keep hK1 (by simp [Off])
  have HA1 := (show Hid (IntsAt w1.drew ao L) from hIA.keep (Keep.drew [] w1) (by simp [Off]))
  have HT1 := (show Hid (TabAt w1.drew tb va vc F cs) from HTA.out.keep (Keep.drew [] w1) (by simp))
  have hKd : Keep [] w w1.drew := hKw.trans (Keep.drew [] w1)
  clear hx hK hK1 HA HT hKw hIA
  have hx2 : w1.drew.heap[w.heap.size]? = some (.cells #[.int .i64 f, .slice ao n c] 94 (0, 0)) := hx1
  obtain ⟨bx, hbq⟩ : ∃ bx, w.heap.size = bx := ⟨_, rfl⟩
  rw [hbq] at hx1 hx2 ⊢
  have c0 : w1.cell? ⟨bx, 0, none⟩ = some (.int .i64 f) := by simp [World.cell?, hx1]
  have c1 : w1.cell? ⟨bx, 1, none⟩ = some (.slice ao n c) := by simp [World.cell?, hx1]
  obtain ⟨dl, hdl⟩ : ∃ dl, ds.length = dl := ⟨_, rfl⟩
  rw [hdl] at hf hcell ⊢
  have HDL := (show Hid (cs.length = dl) from by show _ = _; rw [HLN.out]; exact hdl)
  have HB3 := (show Hid (∀ k, k ∈ F → k < w1.drew.heap.size) from fun k hk => Nat.lt_of_lt_of_le (HB.out k hk) hKd.size)
  have HGW0 := (show Hid (∀ w3, Keep [] w1.drew w3 → ∀ g, (Value.slice va dl vc).ownBlock = some g ∨ g = w3.heap.size + 1 → g ∈ F ∨ w.heap.size ≤ g) from by
    intro w3 hK3 g hg
    rcases hg with e | e
    · left
      cases va with
      | none => simp [Value.ownBlock] at e
      | some a => simp [Value.ownBlock] at e; rw [← e]; exact (HT1.out.vF a rfl).1
    · right
      have := hK3.size
      have := hKd.size
      omega)
  clear hx1
  go_region_law (first | (refine step_append_lies _ rfl (.tmp 21) (.tmp 24) 101 rfl 0 94 i0 (.agg #[.int .i64 0, .slice none 0 0]) 2 32 Try.underlying101 hI.out.1 hI.out.2.1 hI.out.2.2.1 hI.out.2.2.2 rfl (by decide) (.slice va dl vc) dl (flat cs) rfl HO3.out ⟨w3.heap.size, 0, none⟩ 1 1 [.int .i64 f, .slice la n lc] rfl rfl (World.news_of_block (heap_alloc_new w3 _)) (oneCells f la n lc) (by omega) (by unfold maxLen; omega) (by omega) (by omega) (w3.heap.size + 1) (by simp) ?_; intro g cap w4 hown hgrow hat hlt; have HADD := (show Hid (TabAt (w4.setCell ⟨tb, 0, none⟩ (.slice (some ⟨g, 0, none⟩) (cs.length + 1) cap)) tb (some ⟨g, 0, none⟩) cap (g :: (la.toList.map (·.block) ++ F)) (cs ++ [⟨f, la, lc, L⟩]) ∧ Keep F w3 (w4.setCell ⟨tb, 0, none⟩ (.slice (some ⟨g, 0, none⟩) (cs.length + 1) cap))) from TabAt.added (B := w1.drew.heap.size) HT3.out HB3.out HG.out.1 HG.out.2.1 HG.out.2.2.1 HG.out.2.2.2.1 HG.out.2.2.2.2 (by rw [HDL.out, HN.out]; exact hown) (by rw [HDL.out]; exact hgrow) (by rw [HDL.out]; exact hat) hlt); have HGB := (show Hid (g ∈ F ∨ w.heap.size ≤ g) from HGW.out g hat); obtain ⟨hcell4, hfree4⟩ := HT3.out.far4 (by rw [HDL.out]; exact hgrow); rw [HDL.out] at hcell4; clear hown hgrow hat hlt) | (go_simp; refine (copied_any f ao n c L _ HA1.out HC.out HN.out hb).mono ?_; rintro e w3 ⟨v, rfl, hG, hK3⟩; obtain ⟨la, lc, rfl, hG1, hG2, hG3⟩ := hG; rw [HN.out]; have hT3 := HT1.out.keep hK3 (by simp); have hcell3 := hT3.cell; rw [HDL.out] at hcell3; have hx3 := hK3.blk hx2 (by simp); have d0 : w3.cell? ⟨bx, 0, none⟩ = some (.int .i64 f) := (by simp [World.cell?, hx3]); have d1 : w3.cell? ⟨bx, 1, none⟩ = some (.slice ao n c) := (by simp [World.cell?, hx3]); have hcell3a : (w3.alloc (.cells #[.int .i64 f, .slice la n lc] 94)).cell? ⟨tb, 0, none⟩ = some (.slice va dl vc) := ((Keep.alloc [] w3 _).cell (hT3.lt _ hT3.tF) (by simp) 0).trans hcell3; have HT3 := (show Hid (TabAt w3 tb va vc F cs) from hT3); have HO3 := (show Hid ((w3.alloc (.cells #[.int .i64 f, .slice la n lc] 94)).ownsRow 0 94 2 (.slice va dl vc) dl (flat cs)) from (by have := hT3.own.alloc (.cells #[.int .i64 f, .slice la n lc] 94); rw [HDL.out] at this; exact this)); have HG := (show Hid (IntsAt w3 la L ∧ (la = none → lc = 0) ∧ L.length ≤ 1000000 ∧ (∀ a, la = some a → w1.drew.heap.size ≤ a.block ∧ a.block < w3.heap.size) ∧ w1.drew.heap.size ≤ w3.heap.size) from ⟨hG1, hG2, (by rw [HN.out]; exact hb), (fun a e => ⟨(hG3 a e).1, (hG3 a e).2.1⟩), hK3.size⟩); have HGW := (show Hid (∀ g, (Value.slice va dl vc).ownBlock = some g ∨ g = w3.heap.size + 1 → g ∈ F ∨ w.heap.size ≤ g) from (HGW0.out w3 hK3)); clear hT3 hG1 hG2 hG3))
  all_goals (go_wp2_with fail)
  all_goals
    obtain ⟨hA1, hA2⟩ := HADD.out
    rw [HDL.out] at hA1 hA2
    go_ret2
    refine ⟨by rw [hdl]; rfl, ⟨_, ⟨_, _, _, hA1, by rw [HE.out]; simp [CV.d]⟩, ?_⟩, ((hKd.mono (by simp)).trans (hK3.mono (by simp))).trans hA2⟩
    intro k hk
    simp at hk
    rcases hk with rfl | ⟨a, e, rfl⟩ | hk
    · exact HGB.out
    · right
      have h1 := (HG.out.2.2.2.1 a e).1
      have h2 := hKd.size
      omega
    · exact .inl hk

/-- Add, whatever it is given. -/
def addN (ds : List (Int × List Int)) (f : Int) (L : List Int) : Int := if mayB f L && decide (ds.length < 256) then (ds.length : Int) + 1 else 0
def addE (ds : List (Int × List Int)) (f : Int) (L : List Int) : Int := if mayB f L then (if ds.length < 256 then 0 else 3) else 1
def addR (ds : List (Int × List Int)) (f : Int) (L : List Int) : List (Int × List Int) := if mayB f L && decide (ds.length < 256) then ds ++ [(f, L)] else ds
theorem tadd_any (tb : Nat) (F : List Nat) (ds : List (Int × List Int)) (f : Int) (ao : Option Addr) (n c : Nat) (L : List Int) (w : World) (h : IsTab w tb F ds) (hA : IntsAt w ao L) (hc : ao = none → c = 0) (hn : L.length = n) (hb : n ≤ 1000000) :
    Calls Try.prog 65 #[.pointer (some ⟨tb, 0, none⟩), .agg #[.int .i64 f, .slice ao n c]] w fun e w' => e = .returned (.tuple #[.int .i64 (addN ds f L), .int .i64 (addE ds f L)]) ∧ (∃ F', IsTab w' tb F' (addR ds f L) ∧ ∀ k, k ∈ F' → k ∈ F ∨ w.heap.size ≤ k) ∧ Keep F w w' := by
  unfold addN addE addR
  cases hm : mayB f L with
  | false =>
    refine (tadd_arg tb f ao n c L w hA hn hb hm).mono ?_
    rintro e w' ⟨rfl, hK⟩
    exact ⟨by simp, ⟨F, by simpa using h.keep hK (by simp), fun k hk => .inl hk⟩, hK.mono (by simp)⟩
  | true =>
    by_cases hf : ds.length < 256
    · refine (tadd_yes tb F ds f ao n c L w h hA hc hn hb hm hf).mono ?_
      rintro e w' ⟨rfl, hT, hK⟩
      refine ⟨by simp [hf], by simpa [hf] using hT, hK⟩
    · refine (tadd_full tb F ds f ao n c L w h hA hn hb hm (by omega)).mono ?_
      rintro e w' ⟨rfl, hK⟩
      exact ⟨by simp [hf], ⟨F, by simpa [hf] using h.keep hK (by simp), fun k hk => .inl hk⟩, hK.mono (by simp)⟩

set_option maxRecDepth 100000 in
set_option maxHeartbeats 800000 in
theorem tof_any (tb : Nat) (F : List Nat) (ds : List (Int × List Int)) (f : Int) (ao : Option Addr) (n c : Nat) (L : List Int) (w : World) (h : IsTab w tb F ds) (hA : IntsAt w ao L) (hc : ao = none → c = 0) (hn : L.length = n) (hb : n ≤ 1000000) :
    Calls Try.prog 44 #[.pointer (some ⟨tb, 0, none⟩), .int .i64 f, .slice ao n c] w fun e w' => e = .returned (.tuple #[.int .i64 (addN ds f L), .int .i64 (addE ds f L)]) ∧ (∃ F', IsTab w' tb F' (addR ds f L) ∧ ∀ k, k ∈ F' → k ∈ F ∨ w.heap.size ≤ k) ∧ Keep F w w' := by
  have HC := (show Hid (ao = none → c = 0) from hc)
  have HT := (show Hid (IsTab w tb F ds) from h)
  have HA := (show Hid (IntsAt w ao L) from hA)
  have HN := (show Hid (L.length = n) from hn)
  obtain ⟨aN, hN⟩ : ∃ aN, addN ds f L = aN := ⟨_, rfl⟩
  obtain ⟨aE, hE⟩ : ∃ aE, addE ds f L = aE := ⟨_, rfl⟩
  have HAN := (show Hid (addN ds f L = aN) from hN)
  have HAE := (show Hid (addE ds f L = aE) from hE)
  rw [hN, hE]
  clear hN hE h hA hc hn
  go_enter Try.func44, Try.ntmps44
  go_wp2_with (first | (go_at_call 65; refine (tadd_any tb F ds f ao n c L _ HT.out HA.out HC.out HN.out hb).mono ?_; rw [HAN.out, HAE.out]; rintro e w1 ⟨rfl, HF, hK⟩))
  go_ret2
  exact ⟨rfl, HF, hK⟩

end Go.Proofs.Ytgpidokklhjfdaa

/-
  A heap in memory: its block, its space and its table, in blocks of their own; what a call of its space or of its table leaves of it.
-/
namespace Go.Proofs.Ytgpidokklhjfdaa
open Go.RowKit

def spaceA (sb : Nat) (ws : List Int) (kd : List PK) : Asn where
  at' w F := IsSpace w sb F ws kd
  keep := fun h K hS => h.keep K hS
  lt := fun h => h.lt
def tabA (tb : Nat) (ds : List (Int × List Int)) : Asn where
  at' w F := IsTab w tb F ds
  keep := fun h K hS => h.keep K hS
  lt := fun h => h.lt
/-- Block hb is a heap of the space sb and the table tb. -/
def rawA (hb sb tb : Nat) (ws : List Int) (kd : List PK) (ds : List (Int × List Int)) : Asn :=
  (blockA hb (.cells #[.pointer (some ⟨sb, 0, none⟩), .pointer (some ⟨tb, 0, none⟩)] 65 (0, 0))).star ((spaceA sb ws kd).star (tabA tb ds))
def heapA (hb : Nat) (ws : List Int) (kd : List PK) (ds : List (Int × List Int)) : Asn where
  at' w F := (∃ sb tb, (rawA hb sb tb ws kd ds).at' w F) ∧ Fine ws kd ds
  keep := fun h K hS => by
    obtain ⟨⟨sb, tb, h1⟩, h2⟩ := h
    exact ⟨⟨sb, tb, (rawA hb sb tb ws kd ds).keep h1 K hS⟩, h2⟩
  lt := fun h => by
    obtain ⟨⟨sb, tb, h1⟩, h2⟩ := h
    exact (rawA hb sb tb ws kd ds).lt h1

theorem Has.fine {w0 w : World} {F0 : List Nat} {hb : Nat} {ws : List Int} {kd : List PK} {ds : List (Int × List Int)} (h : Has w0 F0 (heapA hb ws kd ds) w) : Fine ws kd ds := h.fact (fun _ h => h.2)
theorem Has.raw {w0 w : World} {F0 : List Nat} {hb : Nat} {ws : List Int} {kd : List PK} {ds : List (Int × List Int)} (h : Has w0 F0 (heapA hb ws kd ds) w) : ∃ sb tb, Has w0 F0 (rawA hb sb tb ws kd ds) w := by
  obtain ⟨F, ⟨⟨sb, tb, h1⟩, h2⟩, u⟩ := h
  exact ⟨sb, tb, F, h1, u⟩
theorem Has.heap {w0 w : World} {F0 : List Nat} {hb sb tb : Nat} {ws : List Int} {kd : List PK} {ds : List (Int × List Int)} (h : Has w0 F0 (rawA hb sb tb ws kd ds) w) (hf : Fine ws kd ds) : Has w0 F0 (heapA hb ws kd ds) w :=
  h.map (fun _ h => ⟨⟨sb, tb, h⟩, hf⟩)
/-- The cells that are read. -/
theorem Has.cells {w0 w : World} {F0 : List Nat} {hb sb tb : Nat} {ws : List Int} {kd : List PK} {ds : List (Int × List Int)} (h : Has w0 F0 (rawA hb sb tb ws kd ds) w) :
    w.cell? ⟨hb, 0, none⟩ = some (.pointer (some ⟨sb, 0, none⟩)) ∧ w.cell? ⟨hb, 1, none⟩ = some (.pointer (some ⟨tb, 0, none⟩)) ∧
      (∃ ab ag, w.cell? ⟨sb, 0, none⟩ = some (.pointer (some ⟨ab, 0, none⟩)) ∧ IsArena w ab ag ws) ∧ (∃ pb, w.cell? ⟨sb, 1, none⟩ = some (.pointer (some ⟨pb, 0, none⟩))) ∧ ws.length = 64 * kd.length := by
  refine h.fact (fun F h => ?_)
  obtain ⟨F1, F2, _, ⟨_, h1⟩, ⟨F3, F4, _, ⟨L, h2⟩, h3, _⟩, _⟩ := h
  exact ⟨by simp [World.cell?, h1], by simp [World.cell?, h1], ⟨_, _, h2.c0, h2.arena⟩, ⟨_, h2.c1⟩, h2.len⟩
theorem Has.space {w0 w : World} {F0 : List Nat} {hb sb tb : Nat} {ws : List Int} {kd : List PK} {ds : List (Int × List Int)} (h : Has w0 F0 (rawA hb sb tb ws kd ds) w) : ∃ F, IsSpace w sb F ws kd :=
  h.fact (fun F h => by obtain ⟨F1, F2, _, _, ⟨F3, F4, _, h2, h3, _⟩, _⟩ := h; exact ⟨F3, h2⟩)
theorem Has.tab {w0 w : World} {F0 : List Nat} {hb sb tb : Nat} {ws : List Int} {kd : List PK} {ds : List (Int × List Int)} (h : Has w0 F0 (rawA hb sb tb ws kd ds) w) : ∃ F, IsTab w tb F ds :=
  h.fact (fun F h => by obtain ⟨F1, F2, _, _, ⟨F3, F4, _, h2, h3, _⟩, _⟩ := h; exact ⟨F4, h3⟩)
/-- What turns the space alone. -/
theorem Has.inSpace {w0 w w' : World} {F0 : List Nat} {hb sb tb : Nat} {ws ws' : List Int} {kd kd' : List PK} {ds : List (Int × List Int)} (h : Has w0 F0 (rawA hb sb tb ws kd ds) w)
    (g : ∀ F, IsSpace w sb F ws kd → ∃ F', IsSpace w' sb F' ws' kd' ∧ Keep F w w' ∧ Grows w F F') : Has w0 F0 (rawA hb sb tb ws' kd' ds) w' := by
  have h1 := Has.comm h
  have h2 := Has.left h1 (A' := (spaceA sb ws' kd').star (tabA tb ds)) (w' := w') (fun F e => Has.left (Has.start e) (fun F e => by
    obtain ⟨F', g1, g2, g3⟩ := g F e
    exact ⟨F', g1, g2, g3⟩))
  exact h2.comm
/-- What turns the table alone. -/
theorem Has.inTab {w0 w w' : World} {F0 : List Nat} {hb sb tb : Nat} {ws : List Int} {kd : List PK} {ds ds' : List (Int × List Int)} (h : Has w0 F0 (rawA hb sb tb ws kd ds) w)
    (g : ∀ F, IsTab w tb F ds → ∃ F', IsTab w' tb F' ds' ∧ Keep F w w' ∧ Grows w F F') : Has w0 F0 (rawA hb sb tb ws kd ds') w' := by
  have h1 := Has.comm h
  have h2 := Has.left h1 (A' := (spaceA sb ws kd).star (tabA tb ds')) (w' := w') (fun F e => (Has.left (Has.start e).comm (A' := tabA tb ds') (fun F e => by
    obtain ⟨F', g1, g2, g3⟩ := g F e
    exact ⟨F', g1, g2, g3⟩)).comm)
  exact h2.comm

/-! ### Calls of the space and of the table -/
section
variable {w0 : World} {F0 : List Nat} {hb sb tb : Nat} {ws : List Int} {kd : List PK} {ds : List (Int × List Int)} (w : World)
theorem xalloc (n N E : Int) (ws' : List Int) (kd' : List PK) (h : Has w0 F0 (rawA hb sb tb ws kd ds) w) (hw : WF kd) (hr : AllocT kd ws n N E ws' kd') :
    Calls Try.prog 29 #[.pointer (some ⟨sb, 0, none⟩), .int .i64 n] w fun e w' => e = .returned (.tuple #[.int .i64 N, .int .i64 E]) ∧ Has w0 F0 (rawA hb sb tb ws' kd' ds) w' := by
  cases hr with
  | arg hb =>
    refine (salloc_arg sb n w hb).mono ?_
    rintro e w' ⟨rfl, hK⟩
    exact ⟨rfl, h.keep0 hK⟩
  | no hb hr =>
    obtain ⟨F, hS⟩ := h.space
    refine (salloc_no sb n F ws kd w hS hw hr hb).mono ?_
    rintro e w' ⟨rfl, hK⟩
    exact ⟨rfl, h.keep0 hK⟩
  | yes a b kd' hr hb =>
    obtain ⟨F, ⟨F1, F2, hF, h1, ⟨F3, F4, hF', h2, h3, hd'⟩, hd⟩, u⟩ := h
    refine (salloc_yes sb a b n F3 ws kd kd' w h2 hw hr hb).mono ?_
    rintro e w' ⟨F', rfl, hS, hK, hG⟩
    obtain ⟨G1, g1, g2⟩ := star_left (A' := spaceA sb (fill0 ws a b) kd') (B := tabA tb ds) hF' hd' h3 hS ⟨hK, hG⟩
    obtain ⟨G2, g3, g4⟩ := star_right hF hd h1 g1 g2
    exact ⟨rfl, G2, g3, u.trans g4⟩
theorem xfind (a : Int) (h : Has w0 F0 (rawA hb sb tb ws kd ds) w) (hw : WF kd) :
    Calls Try.prog 82 #[.pointer (some ⟨sb, 0, none⟩), .int .i64 a] w fun e w' => e = .returned (foundV (findI kd a)) ∧ Keep [] w w' := by
  obtain ⟨F, hS⟩ := h.space
  exact sfind_any sb F a ws kd w hS hw
theorem xeach (h : Has w0 F0 (rawA hb sb tb ws kd ds) w) (hw : WF kd) :
    Calls Try.prog 43 #[.pointer (some ⟨sb, 0, none⟩)] w fun e w' => ∃ la lc, e = .returned (.slice la (eachK kd).length lc) ∧ IntsAt w' la (eachK kd) ∧ (∀ a, la = some a → w.heap.size ≤ a.block) ∧ Keep [] w w' := by
  obtain ⟨F, hS⟩ := h.space
  refine (seach_any sb F ws kd w hS hw).mono ?_
  rintro e w' ⟨v, rfl, ⟨la, lc, rfl, h1, h2, h3⟩, hK⟩
  exact ⟨la, lc, rfl, h1, h3, hK⟩
/-- The arena's own calls, through the space. -/
theorem xload (ab ag a : Nat) (hA : IsArena w ab ag ws) (ha : a < ws.length) :
    Calls Try.prog 50 #[.pointer (some ⟨ab, 0, none⟩), .int .i64 a] w fun e w' => e = .returned (.tuple #[.int .i64 (ws[a]?.getD 0), .int .i64 0]) ∧ w = w' := load_yes ab ag a ws w hA ha
theorem xstore (ab a : Nat) (x : Int) (h : Has w0 F0 (rawA hb sb tb ws kd ds) w) (hc : w.cell? ⟨sb, 0, none⟩ = some (.pointer (some ⟨ab, 0, none⟩))) (ha : a < ws.length) :
    Calls Try.prog 32 #[.pointer (some ⟨ab, 0, none⟩), .int .i64 a, .int .i64 x] w fun e w' => e = .returned (.int .i64 0) ∧ Has w0 F0 (rawA hb sb tb (ws.set a x) kd ds) w' := by
  obtain ⟨F, ⟨F1, F2, hF, h1, ⟨F3, F4, hF', ⟨L, h2⟩, h3, hd'⟩, hd⟩, u⟩ := h
  have e := h2.c0
  rw [hc] at e
  have e2 : ab = L.ab := by injection e with e; injection e with e; injection e with e; injection e
  subst e2
  refine (store_yes L.ab L.ag a x ws w h2.arena ha).mono ?_
  rintro e w' ⟨rfl, hA, hK⟩
  have f := h2.f.2.2.1
  obtain ⟨G1, g1, g2⟩ := star_left (A' := spaceA sb (ws.set a x) kd) (B := tabA tb ds) hF' hd' h3 ⟨L, h2.words hK hA (by simp)⟩ ⟨hK.mono (fun k e => by simp at e; subst e; exact f), fun k e => .inl e⟩
  obtain ⟨G2, g3, g4⟩ := star_right hF hd h1 g1 g2
  exact ⟨rfl, G2, g3, u.trans g4⟩
theorem xadd (f : Int) (ao : Option Addr) (n c : Nat) (L : List Int) (h : Has w0 F0 (rawA hb sb tb ws kd ds) w) (hA : IntsAt w ao L) (hc : ao = none → c = 0) (hn : L.length = n) (hbd : n ≤ 1000000) :
    Calls Try.prog 65 #[.pointer (some ⟨tb, 0, none⟩), .agg #[.int .i64 f, .slice ao n c]] w fun e w' => e = .returned (.tuple #[.int .i64 (addN ds f L), .int .i64 (addE ds f L)]) ∧ Has w0 F0 (rawA hb sb tb ws kd (addR ds f L)) w' := by
  obtain ⟨F, ⟨F1, F2, hF, h1, ⟨F3, F4, hF', h2, h3, hd'⟩, hd⟩, u⟩ := h
  refine (tadd_any tb F4 ds f ao n c L w h3 hA hc hn hbd).mono ?_
  rintro e w' ⟨rfl, ⟨F', hT, hG⟩, hK⟩
  obtain ⟨G1, g1, g2⟩ := star_right (A := spaceA sb ws kd) (B' := tabA tb (addR ds f L)) hF' hd' h2 hT ⟨hK, hG⟩
  obtain ⟨G2, g3, g4⟩ := star_right hF hd h1 g1 g2
  exact ⟨rfl, G2, g3, u.trans g4⟩
theorem xof (f : Int) (ao : Option Addr) (n c : Nat) (L : List Int) (h : Has w0 F0 (rawA hb sb tb ws kd ds) w) (hA : IntsAt w ao L) (hc : ao = none → c = 0) (hn : L.length = n) (hbd : n ≤ 1000000) :
    Calls Try.prog 44 #[.pointer (some ⟨tb, 0, none⟩), .int .i64 f, .slice ao n c] w fun e w' => e = .returned (.tuple #[.int .i64 (addN ds f L), .int .i64 (addE ds f L)]) ∧ Has w0 F0 (rawA hb sb tb ws kd (addR ds f L)) w' := by
  obtain ⟨F, ⟨F1, F2, hF, h1, ⟨F3, F4, hF', h2, h3, hd'⟩, hd⟩, u⟩ := h
  refine (tof_any tb F4 ds f ao n c L w h3 hA hc hn hbd).mono ?_
  rintro e w' ⟨rfl, ⟨F', hT, hG⟩, hK⟩
  obtain ⟨G1, g1, g2⟩ := star_right (A := spaceA sb ws kd) (B' := tabA tb (addR ds f L)) hF' hd' h2 hT ⟨hK, hG⟩
  obtain ⟨G2, g3, g4⟩ := star_right hF hd h1 g1 g2
  exact ⟨rfl, G2, g3, u.trans g4⟩
end

end Go.Proofs.Ytgpidokklhjfdaa

/-
  Package object: what begins, Head, place, Field, Put, fits, setHead, Make and Final answer and leave.
-/
namespace Go.Proofs.Ytgpidokklhjfdaa
open Go.RowKit

section
variable {w0 : World} {F0 : List Nat} {hb : Nat} {ws : List Int} {kd : List PK} {ds : List (Int × List Int)}

set_option maxHeartbeats 800000 in
theorem obegins {sb tb : Nat} (a : Int) (w : World) (h : Has w0 F0 (rawA hb sb tb ws kd ds) w) (hw : WF kd) :
    Calls Try.prog 67 #[.pointer (some ⟨hb, 0, none⟩), .int .i64 a] w fun e w' => e = .returned (.bool (isAt kd a)) ∧ Keep [] w w' := by
  obtain ⟨c0, _⟩ := h.cells
  have HX := (show Hid (Has w0 F0 (rawA hb sb tb ws kd ds) w) from h)
  have HW := (show Hid (WF kd) from hw)
  clear h hw
  unfold isAt
  cases hf : findI kd a with
  | none =>
    have HF := (show Hid (findI kd a = none) from hf)
    clear hf
    go_enter Try.func67, Try.ntmps67
    go_wp2_with (first | (go_at_call 82; refine (xfind _ a HX.out HW.out).mono ?_; rw [HF.out]; simp only [foundV]; rintro e w1 ⟨rfl, hK1⟩))
    go_ret
    exact ⟨rfl, hK1⟩
  | some o =>
    obtain ⟨s, n⟩ := o
    have HF := (show Hid (findI kd a = some (s, n)) from hf)
    clear hf
    go_enter Try.func67, Try.ntmps67
    go_wp2_with (first | (go_at_call 82; refine (xfind _ a HX.out HW.out).mono ?_; rw [HF.out]; simp only [foundV]; rintro e w1 ⟨rfl, hK1⟩))
    go_ret
    exact ⟨rfl, hK1⟩
set_option maxHeartbeats 800000 in
theorem obegins_nil (a : Int) (w : World) :
    Calls Try.prog 67 #[.pointer none, .int .i64 a] w fun e w' => e = .returned (.bool false) ∧ w = w' := by
  go_enter Try.func67, Try.ntmps67
  go_wp2_with fail
  go_ret
  exact ⟨rfl, rfl⟩

/-- Head where there is none. -/
theorem ohead_none (pv : Option Addr) (a : Int) (w : World) (hc : ∀ w1, Keep [] w w1 → Calls Try.prog 67 #[.pointer pv, .int .i64 a] w1 fun e w' => e = .returned (.bool false) ∧ Keep [] w1 w') :
    Calls Try.prog 47 #[.pointer pv, .int .i64 a] w fun e w' => e = .returned (.tuple #[.agg #[.int .i64 0, .int .i64 0, .int .i64 0, .bool false], .int .i64 2]) ∧ Keep [] w w' := by
  have HC := (show Hid (∀ w1, Keep [] w w1 → Calls Try.prog 67 #[.pointer pv, .int .i64 a] w1 fun e w' => e = .returned (.bool false) ∧ Keep [] w1 w') from hc)
  have hK := Keep.alloc [] w (.cells #[.int .i64 0, .int .i64 0, .int .i64 0, .bool false] 32)
  have hx := heap_alloc_new w (.cells #[.int .i64 0, .int .i64 0, .int .i64 0, .bool false] 32)
  clear hc
  go_enter Try.func47, Try.ntmps47
  go_wp2_with (first | (go_at_call 67; refine (HC.out _ hK).mono ?_; rintro e w1 ⟨rfl, hK1⟩; have hx1 := hK1.blk hx (by simp); obtain ⟨f0, f1, f2, f3⟩ := four_free hx1; obtain ⟨d0, d1, d2, d3⟩ := four_cells hx1))
  obtain ⟨z, hk4⟩ := four_put hx1 (.int .i64 0) (.int .i64 0) (.int .i64 0) (.bool false)
  refine bodyPost_ret (results_cell_tmp_row rfl _ _ w.heap.size 32 #[.int .i64 0, .int .i64 0, .int .i64 0, .bool false] (0, 0) _ rfl z Try.underlying32 rfl (by kernel_rfl)) rfl ?_
  exact ⟨rfl, (((hK.trans hK1).mono (T := [w.heap.size]) (by simp)).trans hk4).drop (by simp)⟩

set_option maxRecDepth 100000 in
set_option maxHeartbeats 1600000 in
theorem ohead_yes {sb tb : Nat} (b m : Nat) (k c l : Int) (f : Bool) (w : World) (h : Has w0 F0 (rawA hb sb tb ws kd ds) w) (hw : WF kd) (hA : At kd ws b b m k c l f) :
    Calls Try.prog 47 #[.pointer (some ⟨hb, 0, none⟩), .int .i64 b] w fun e w' => e = .returned (.tuple #[.agg #[.int .i64 k, .int .i64 c, .int .i64 l, .bool f], .int .i64 0]) ∧ Keep [] w w' := by
  have HI := (show Hid (isAt kd (b : Int) = true) from isAt_yes hA)
  have hK := Keep.alloc [] w (.cells #[.int .i64 0, .int .i64 0, .int .i64 0, .bool false] 32)
  have hx := heap_alloc_new w (.cells #[.int .i64 0, .int .i64 0, .int .i64 0, .bool false] 32)
  have HX := (show Hid (Has w0 F0 (rawA hb sb tb ws kd ds) (w.alloc (.cells #[.int .i64 0, .int .i64 0, .int .i64 0, .bool false] 32))) from h.keep0 hK)
  have HW := (show Hid (WF kd) from hw)
  obtain ⟨_, e1, e2, e3, e4, e5⟩ := hA.facts hw
  have hlt : b < ws.length := by rw [h.cells.2.2.2.2]; omega
  obtain ⟨x, hx'⟩ : ∃ x, ws[b]?.getD 0 = x := ⟨_, rfl⟩
  have HV := (show Hid (ws[b]?.getD 0 = x) from hx')
  have hWd := hA.2.2
  rw [hx'] at hWd
  have HWD := (show Hid (Word x k c l f) from hWd)
  clear h hw hA hx' hWd e1 e2 e3 e4 e5
  go_enter Try.func47, Try.ntmps47
  go_wp2_with (first | (go_at_call 67; refine (obegins b _ HX.out HW.out).mono ?_; rw [HI.out]; rintro e w1 ⟨rfl, hK1⟩; have hx1 := hK1.blk hx (by simp); obtain ⟨c0, _, ⟨ab, ag, c2, hAr⟩, _, _⟩ := (HX.out.keep0 hK1).cells) | (go_at_call 50; refine (xload _ ab ag b hAr hlt).mono ?_; rw [HV.out]; rintro e w' ⟨rfl, rfl⟩) | (go_at_call 68; refine (hget_yes x k c l f _ HWD.out).mono ?_; rintro e w3 ⟨rfl, hK3⟩; have hx3 := (hK3.trans (Keep.alloc [] w3 (.cells #[.int .i64 k, .int .i64 c, .int .i64 l, .bool f] 32))).blk hx1 (by simp); have hy3 := heap_alloc_new w3 (.cells #[.int .i64 k, .int .i64 c, .int .i64 l, .bool f] 32); obtain ⟨f0, f1, f2, f3⟩ := four_free hx3; obtain ⟨d0, d1, d2, d3⟩ := four_cells hx3; obtain ⟨g0, g1, g2, g3⟩ := four_cells hy3; have hlw := lt_of_block hx1; have hne : w.heap.size ≠ w3.heap.size := (by have := hK3.size; omega)))
  obtain ⟨z, hk4⟩ := four_put hx3 (.int .i64 k) (.int .i64 c) (.int .i64 l) (.bool f)
  refine bodyPost_ret (results_cell_tmp_row rfl _ _ w.heap.size 32 #[.int .i64 k, .int .i64 c, .int .i64 l, .bool f] (0, 0) _ rfl z Try.underlying32 rfl (by kernel_rfl)) rfl ?_
  exact ⟨rfl, (((((hK.trans hK1).trans hK3).trans (Keep.alloc [] w3 _)).mono (T := [w.heap.size]) (by simp)).trans hk4).drop (by simp)⟩

theorem ohead (a k c l E : Int) (f : Bool) (w : World) (h : Has w0 F0 (heapA hb ws kd ds) w) (hT : HeadT kd ws a k c l f E) :
    Calls Try.prog 47 #[.pointer (some ⟨hb, 0, none⟩), .int .i64 a] w fun e w' => e = .returned (.tuple #[.agg #[.int .i64 k, .int .i64 c, .int .i64 l, .bool f], .int .i64 E]) ∧ Keep [] w w' := by
  obtain ⟨sb, tb, hr⟩ := h.raw
  have hw := h.fine.wf
  cases hT with
  | no hn =>
    refine ohead_none _ a w (fun w1 K => ?_)
    have := obegins a w1 (hr.keep0 K) hw
    rw [isAt_no hn] at this
    exact this
  | yes b m k c l f hA =>
    obtain ⟨rfl, _⟩ := hA.facts hw
    exact ohead_yes b m k c l f w hr hw hA
theorem ohead_nil (a : Int) (w : World) :
    Calls Try.prog 47 #[.pointer none, .int .i64 a] w fun e w' => e = .returned (.tuple #[.agg #[.int .i64 0, .int .i64 0, .int .i64 0, .bool false], .int .i64 2]) ∧ Keep [] w w' :=
  ohead_none none a w (fun w1 _ => (obegins_nil a w1).mono (by rintro e w' ⟨rfl, rfl⟩; exact ⟨rfl, Keep.refl _ _⟩))

/-! ### Fields -/
set_option maxRecDepth 100000 in
set_option maxHeartbeats 1600000 in
theorem oplace_head (pv : Option Addr) (a i : Int) (k c l E : Int) (f : Bool) (w : World) (hc : Calls Try.prog 47 #[.pointer pv, .int .i64 a] w fun e w' => e = .returned (.tuple #[.agg #[.int .i64 k, .int .i64 c, .int .i64 l, .bool f], .int .i64 E]) ∧ Keep [] w w') (hE : E ≠ 0) :
    Calls Try.prog 31 #[.pointer pv, .int .i64 a, .int .i64 i] w fun e w' => e = .returned (.tuple #[.int .i64 0, .int .i64 E]) ∧ Keep [] w w' := by
  have HC := (show Hid (Calls Try.prog 47 #[.pointer pv, .int .i64 a] w fun e w' => e = .returned (.tuple #[.agg #[.int .i64 k, .int .i64 c, .int .i64 l, .bool f], .int .i64 E]) ∧ Keep [] w w') from hc)
  have hd : (E == 0) = false := by simpa using hE
  clear hc
  go_enter Try.func31, Try.ntmps31
  go_wp2_with (first | (go_at_call 47; refine HC.out.mono ?_; rintro e w1 ⟨rfl, hK1⟩))
  go_ret2
  exact ⟨rfl, hK1.trans (Keep.alloc [] _ _)⟩
set_option maxRecDepth 100000 in
set_option maxHeartbeats 1600000 in
theorem oplace_arg (pv : Option Addr) (a i : Int) (k c l : Int) (f : Bool) (w : World) (hc : Calls Try.prog 47 #[.pointer pv, .int .i64 a] w fun e w' => e = .returned (.tuple #[.agg #[.int .i64 k, .int .i64 c, .int .i64 l, .bool f], .int .i64 0]) ∧ Keep [] w w') (hi : ¬ (0 ≤ i ∧ i < l)) :
    Calls Try.prog 31 #[.pointer pv, .int .i64 a, .int .i64 i] w fun e w' => e = .returned (.tuple #[.int .i64 0, .int .i64 1]) ∧ Keep [] w w' := by
  have HC := (show Hid (Calls Try.prog 47 #[.pointer pv, .int .i64 a] w fun e w' => e = .returned (.tuple #[.agg #[.int .i64 k, .int .i64 c, .int .i64 l, .bool f], .int .i64 0]) ∧ Keep [] w w') from hc)
  clear hc
  by_cases h0 : i < 0
  · go_enter Try.func31, Try.ntmps31
    go_wp2_with (first | (go_at_call 47; refine HC.out.mono ?_; rintro e w1 ⟨rfl, hK1⟩))
    go_ret2
    exact ⟨rfl, hK1.trans (Keep.alloc [] _ _)⟩
  · have h1 : l ≤ i := by omega
    clear hi
    go_enter Try.func31, Try.ntmps31
    go_wp2_with (first | (go_at_call 47; refine HC.out.mono ?_; rintro e w1 ⟨rfl, hK1⟩; have hy := heap_alloc_new w1 (.cells #[.int .i64 k, .int .i64 c, .int .i64 l, .bool f] 32); obtain ⟨g0, g1, g2, g3⟩ := four_cells hy))
    go_ret2
    exact ⟨rfl, hK1.trans (Keep.alloc [] _ _)⟩
set_option maxRecDepth 100000 in
set_option maxHeartbeats 1600000 in
theorem oplace_yes (pv : Option Addr) (b j : Nat) (k c l : Int) (f : Bool) (w : World) (hc : Calls Try.prog 47 #[.pointer pv, .int .i64 b] w fun e w' => e = .returned (.tuple #[.agg #[.int .i64 k, .int .i64 c, .int .i64 l, .bool f], .int .i64 0]) ∧ Keep [] w w') (hj : (j : Int) < l) (hb : b ≤ 20000) (hl : l ≤ 1023) :
    Calls Try.prog 31 #[.pointer pv, .int .i64 b, .int .i64 j] w fun e w' => e = .returned (.tuple #[.int .i64 ((b + 1 + j : Nat) : Int), .int .i64 0]) ∧ Keep [] w w' := by
  have HC := (show Hid (Calls Try.prog 47 #[.pointer pv, .int .i64 b] w fun e w' => e = .returned (.tuple #[.agg #[.int .i64 k, .int .i64 c, .int .i64 l, .bool f], .int .i64 0]) ∧ Keep [] w w') from hc)
  have hd : decide (l ≤ (j : Int)) = false := by rw [decide_eq_false_iff_not]; omega
  have hd0 : decide ((j : Int) < 0) = false := by rw [decide_eq_false_iff_not]; omega
  clear hc
  go_enter Try.func31, Try.ntmps31
  go_wp2_with (first | (go_at_call 47; refine HC.out.mono ?_; rintro e w1 ⟨rfl, hK1⟩; have hy := heap_alloc_new w1 (.cells #[.int .i64 k, .int .i64 c, .int .i64 l, .bool f] 32); obtain ⟨g0, g1, g2, g3⟩ := four_cells hy))
  go_ret2
  exact ⟨by go_num, hK1.trans (Keep.alloc [] _ _)⟩
theorem oplace (a i : Int) (p : Nat) (E : Int) (w : World) (h : Has w0 F0 (heapA hb ws kd ds) w) (hT : PlaceT kd ws a i p E) :
    Calls Try.prog 31 #[.pointer (some ⟨hb, 0, none⟩), .int .i64 a, .int .i64 i] w fun e w' => e = .returned (.tuple #[.int .i64 p, .int .i64 E]) ∧ Keep [] w w' := by
  cases hT with
  | none hn => exact oplace_head _ a i _ _ _ _ _ w (ohead a _ _ _ _ _ w h (.no hn)) (by omega)
  | arg b m k c l f hA hi => exact oplace_arg _ a i _ _ _ _ w (ohead a _ _ _ _ _ w h (.yes b m k c l f hA)) hi
  | yes b m j k c l f hA e hj hl =>
    obtain ⟨rfl, e1, e2, e3, e4, e5⟩ := hA.facts h.fine.wf
    subst e
    have := hA.2.2.bd
    exact oplace_yes _ b j k c l f w (ohead b _ _ _ _ _ w h (.yes b m k c l f hA)) hj (by omega) (by omega)

set_option maxHeartbeats 1600000 in
theorem ofield_no (pv : Option Addr) (a i E : Int) (w : World) (hc : Calls Try.prog 31 #[.pointer pv, .int .i64 a, .int .i64 i] w fun e w' => e = .returned (.tuple #[.int .i64 0, .int .i64 E]) ∧ Keep [] w w') (hE : E ≠ 0) :
    Calls Try.prog 23 #[.pointer pv, .int .i64 a, .int .i64 i] w fun e w' => e = .returned (.tuple #[.int .i64 0, .int .i64 E]) ∧ Keep [] w w' := by
  have HC := (show Hid (Calls Try.prog 31 #[.pointer pv, .int .i64 a, .int .i64 i] w fun e w' => e = .returned (.tuple #[.int .i64 0, .int .i64 E]) ∧ Keep [] w w') from hc)
  have hd : (E == 0) = false := by simpa using hE
  clear hc
  go_enter Try.func23, Try.ntmps23
  go_wp2_with (first | (go_at_call 31; refine HC.out.mono ?_; rintro e w1 ⟨rfl, hK1⟩))
  go_ret2
  exact ⟨rfl, hK1⟩
set_option maxHeartbeats 1600000 in
theorem ofield (a i N E : Int) (w : World) (h : Has w0 F0 (heapA hb ws kd ds) w) (hT : FieldT kd ws a i N E) :
    Calls Try.prog 23 #[.pointer (some ⟨hb, 0, none⟩), .int .i64 a, .int .i64 i] w fun e w' => e = .returned (.tuple #[.int .i64 N, .int .i64 E]) ∧ Keep [] w w' := by
  cases hT with
  | no E hp hE => exact ofield_no _ a i E w (oplace a i 0 E w h hp) (by omega)
  | yes p hp hlt =>
    obtain ⟨sb, tb, hr⟩ := h.raw
    have HC := (show Hid (Calls Try.prog 31 #[.pointer (some ⟨hb, 0, none⟩), .int .i64 a, .int .i64 i] w fun e w' => e = .returned (.tuple #[.int .i64 p, .int .i64 0]) ∧ Keep [] w w') from oplace a i p 0 w h hp)
    have HR := (show Hid (Has w0 F0 (rawA hb sb tb ws kd ds) w) from hr)
    obtain ⟨x, hx'⟩ : ∃ x, ws[p]?.getD 0 = x := ⟨_, rfl⟩
    have HV := (show Hid (ws[p]?.getD 0 = x) from hx')
    rw [hx']
    clear hr h hp hx'
    go_enter Try.func23, Try.ntmps23
    go_wp2_with (first | (go_at_call 31; refine HC.out.mono ?_; rintro e w1 ⟨rfl, hK1⟩; obtain ⟨c0, _, ⟨ab, ag, c2, hAr⟩, _, _⟩ := (HR.out.keep0 hK1).cells) | (go_at_call 50; refine (xload _ ab ag p hAr hlt).mono ?_; rw [HV.out]; rintro e w' ⟨rfl, rfl⟩))
    go_ret2
    exact ⟨rfl, hK1⟩
set_option maxHeartbeats 1600000 in
theorem oput_no (pv : Option Addr) (a i x E : Int) (w : World) (hc : Calls Try.prog 31 #[.pointer pv, .int .i64 a, .int .i64 i] w fun e w' => e = .returned (.tuple #[.int .i64 0, .int .i64 E]) ∧ Keep [] w w') (hE : E ≠ 0) :
    Calls Try.prog 11 #[.pointer pv, .int .i64 a, .int .i64 i, .int .i64 x] w fun e w' => e = .returned (.int .i64 E) ∧ Keep [] w w' := by
  have HC := (show Hid (Calls Try.prog 31 #[.pointer pv, .int .i64 a, .int .i64 i] w fun e w' => e = .returned (.tuple #[.int .i64 0, .int .i64 E]) ∧ Keep [] w w') from hc)
  have hd : (E == 0) = false := by simpa using hE
  clear hc
  go_enter Try.func11, Try.ntmps11
  go_wp2_with (first | (go_at_call 31; refine HC.out.mono ?_; rintro e w1 ⟨rfl, hK1⟩))
  go_ret
  exact ⟨rfl, hK1⟩
set_option maxHeartbeats 1600000 in
theorem oput (a i x E : Int) (ws' : List Int) (w : World) (h : Has w0 F0 (heapA hb ws kd ds) w) (hT : PutT kd ws a i x E ws') (hx : inI x) :
    Calls Try.prog 11 #[.pointer (some ⟨hb, 0, none⟩), .int .i64 a, .int .i64 i, .int .i64 x] w fun e w' => e = .returned (.int .i64 E) ∧ Has w0 F0 (heapA hb ws' kd ds) w' := by
  have hfin := hT.fine h.fine hx
  cases hT with
  | no E hp hE =>
    refine (oput_no _ a i x E w (oplace a i 0 E w h hp) (by omega)).mono ?_
    rintro e w' ⟨rfl, hK⟩
    exact ⟨rfl, h.keep0 hK⟩
  | yes p hp hlt =>
    obtain ⟨sb, tb, hr⟩ := h.raw
    have HC := (show Hid (Calls Try.prog 31 #[.pointer (some ⟨hb, 0, none⟩), .int .i64 a, .int .i64 i] w fun e w' => e = .returned (.tuple #[.int .i64 p, .int .i64 0]) ∧ Keep [] w w') from oplace a i p 0 w h hp)
    have HR := (show Hid (Has w0 F0 (rawA hb sb tb ws kd ds) w) from hr)
    have HFI := (show Hid (Fine (ws.set p x) kd ds) from hfin)
    clear hr h hp hfin hx
    go_enter Try.func11, Try.ntmps11
    go_wp2_with (first | (go_at_call 31; refine HC.out.mono ?_; rintro e w1 ⟨rfl, hK1⟩; obtain ⟨c0, _, ⟨ab, ag, c2, hAr⟩, _, _⟩ := (HR.out.keep0 hK1).cells) | (go_at_call 32; refine (xstore _ ab p x (HR.out.keep0 hK1) c2 hlt).mono ?_; rintro e w2 ⟨rfl, hH2⟩))
    go_ret
    exact ⟨rfl, hH2.heap HFI.out⟩

/-! ### Heads -/
set_option maxHeartbeats 1600000 in
theorem osethead {sb tb : Nat} (b : Nat) (k c l : Int) (f : Bool) (w : World) (h : Has w0 F0 (rawA hb sb tb ws kd ds) w) (hm : mayH k c l f = true) (hlt : b < ws.length) :
    Calls Try.prog 30 #[.pointer (some ⟨hb, 0, none⟩), .int .i64 b, .agg #[.int .i64 k, .int .i64 c, .int .i64 l, .bool f]] w fun e w' => e = .returned (.int .i64 0) ∧ Has w0 F0 (rawA hb sb tb (ws.set b (putH k c l f)) kd ds) w' := by
  have hK := Keep.alloc [] w (.cells #[.int .i64 k, .int .i64 c, .int .i64 l, .bool f] 32)
  have hx := heap_alloc_new w (.cells #[.int .i64 k, .int .i64 c, .int .i64 l, .bool f] 32)
  obtain ⟨g0, g1, g2, g3⟩ := four_cells hx
  have HX := (show Hid (Has w0 F0 (rawA hb sb tb ws kd ds) (w.alloc (.cells #[.int .i64 k, .int .i64 c, .int .i64 l, .bool f] 32))) from h.keep0 hK)
  have HM := (show Hid (mayH k c l f = true) from hm)
  obtain ⟨x, hx'⟩ : ∃ x, putH k c l f = x := ⟨_, rfl⟩
  have HP := (show Hid (putN k c l f = x) from by show _ = _; unfold putN; rw [if_pos hm]; exact hx')
  rw [hx']
  clear h hm hx'
  go_enter Try.func30, Try.ntmps30
  go_wp2_with (first | (go_at_call 57; refine (hput_any k c l f _).mono ?_; rw [HP.out, HM.out]; rintro e w1 ⟨rfl, hK1⟩; obtain ⟨c0, _, ⟨ab, ag, c2, hAr⟩, _, _⟩ := (HX.out.keep0 hK1).cells) | (go_at_call 32; refine (xstore _ ab b x (HX.out.keep0 hK1) c2 hlt).mono ?_; rintro e w2 ⟨rfl, hH2⟩))
  go_ret
  exact ⟨rfl, hH2⟩

end

end Go.Proofs.Ytgpidokklhjfdaa

/-
  Package object: what fits, Make, Final and New answer and leave.
-/
namespace Go.Proofs.Ytgpidokklhjfdaa
open Go.RowKit

theorem two_cells {w : World} {b : Nat} {t : TypeId} {a0 a1 : Value} (h : w.heap[b]? = some (.cells #[a0, a1] t (0, 0))) : w.cell? ⟨b, 0, none⟩ = some a0 ∧ w.cell? ⟨b, 1, none⟩ = some a1 := by
  refine ⟨?_, ?_⟩ <;> simp [World.cell?, h]
theorem two_free {w : World} {b : Nat} {t : TypeId} {a0 a1 : Value} (h : w.heap[b]? = some (.cells #[a0, a1] t (0, 0))) : w.frozen? ⟨b, 0, none⟩ = false ∧ w.frozen? ⟨b, 1, none⟩ = false := by
  refine ⟨?_, ?_⟩ <;> simp [World.frozen?, h]
theorem two_put {w : World} {b : Nat} {t : TypeId} {a0 a1 : Value} (h : w.heap[b]? = some (.cells #[a0, a1] t (0, 0))) (b0 b1 : Value) :
    ((w.setCell ⟨b, 0, none⟩ b0).setCell ⟨b, 1, none⟩ b1).heap[b]? = some (.cells #[b0, b1] t (0, 0)) ∧ Keep [b] w ((w.setCell ⟨b, 0, none⟩ b0).setCell ⟨b, 1, none⟩ b1) := by
  have z1 := heap_setCell_same w b 0 _ _ b0 h
  have z2 := heap_setCell_same _ b 1 _ _ b1 z1
  exact ⟨by simpa using z2, (Keep.setCell _ _ (by simp)).trans (Keep.setCell _ _ (by simp))⟩
section
variable {w0 : World} {F0 : List Nat} {hb : Nat} {ws : List Int} {kd : List PK} {ds : List (Int × List Int)}

set_option maxHeartbeats 1600000 in
theorem ofits_other (pv : Option Addr) (k c l : Int) (f : Bool) (w : World) (hk : k ≠ 1) :
    Calls Try.prog 28 #[.pointer pv, .agg #[.int .i64 k, .int .i64 c, .int .i64 l, .bool f]] w fun e w' => e = .returned (.int .i64 0) ∧ Keep [] w w' := by
  have hd : (k == 1) = false := by simpa using hk
  have hx := heap_alloc_new w (.cells #[.int .i64 k, .int .i64 c, .int .i64 l, .bool f] 32)
  obtain ⟨g0, g1, g2, g3⟩ := four_cells hx
  go_enter Try.func28, Try.ntmps28
  go_wp2_with fail
  go_ret
  exact ⟨rfl, Keep.alloc [] _ _⟩
set_option maxRecDepth 100000 in
set_option maxHeartbeats 1600000 in
theorem ofits_none {sb tb : Nat} (c l : Int) (f : Bool) (w : World) (h : Has w0 F0 (rawA hb sb tb ws kd ds) w) (hc : c < 1 ∨ (ds.length : Int) < c) :
    Calls Try.prog 28 #[.pointer (some ⟨hb, 0, none⟩), .agg #[.int .i64 1, .int .i64 c, .int .i64 l, .bool f]] w fun e w' => e = .returned (.int .i64 2) ∧ Keep [] w w' := by
  have hK := Keep.alloc [] w (.cells #[.int .i64 1, .int .i64 c, .int .i64 l, .bool f] 32)
  have hx := heap_alloc_new w (.cells #[.int .i64 1, .int .i64 c, .int .i64 l, .bool f] 32)
  have h1 := h.keep0 hK
  clear h
  obtain ⟨g0, g1, g2, g3⟩ := four_cells hx
  go_enter Try.func28, Try.ntmps28
  go_upto_region 3 with fail
  generalize w.alloc (.cells #[.int .i64 1, .int .i64 c, .int .i64 l, .bool f] 32) = w1 at *
  obtain ⟨c0, c1, _⟩ := h1.cells
  obtain ⟨F, hT⟩ := h1.tab
  have HT := (show Hid (∀ w', Keep [] w1 w' → IsTab w' tb F ds) from fun w' K => hT.keep K (by simp))
  have hKz := (Keep.alloc [] w1 (.cells #[.int .i64 0, .slice none 0 0] 94)).trans (Keep.drew [] _)
  obtain ⟨b0, b1, _⟩ := (h1.keep0 hKz).cells
  obtain ⟨d0, d1, d2, d3⟩ := four_cells (hKz.blk hx (by simp))
  have hn1 := World.new_ne _ _ c1
  have hn2 := World.new_ne _ _ g1
  clear h1 hT
  go_region_law (first | (go_simp; refine (tclass_no tb F ds c _ (HT.out _ (by first | exact Keep.drew [] _ | exact (Keep.alloc [] _ _).trans (Keep.drew [] _))) hc).mono ?_; rintro e w2 ⟨rfl, hK2⟩; have hKe : Keep [] w1 w2 := (by first | exact (Keep.drew [] _).trans hK2 | exact ((Keep.alloc [] _ _).trans (Keep.drew [] _)).trans hK2); obtain ⟨q0, q1, q2, q3⟩ := four_cells (hKe.blk hx (by simp)); have hn3 : w2.heap.size ≠ w.heap.size := World.new_ne _ _ q1; have hn4 := hn3.symm; try (have hz := hK2.blk (heap_alloc_new w1 (.cells #[.int .i64 0, .slice none 0 0] 94)) (by simp); obtain ⟨u0, u1⟩ := two_cells hz; obtain ⟨v0, v1⟩ := two_free hz)))
  all_goals first
    | (obtain ⟨hz1, hk4⟩ := two_put hz (.int .i64 0) (.slice none 0 0)
       have hxz := hk4.blk (hKe.blk hx (by simp)) (by simpa using hn2.symm)
       have hKf := hK.trans (((hKe.mono (T := [w1.heap.size]) (by simp)).trans hk4).drop (by simp))
       clear hk4 hz u0 u1 v0 v1
       generalize (w2.setCell ⟨w1.heap.size, 0, none⟩ (.int .i64 0)).setCell ⟨w1.heap.size, 1, none⟩ (.slice none 0 0) = wz at *)
    | (have hxz := (Keep.alloc [] w2 (.cells #[.int .i64 0, .slice none 0 0] 94)).blk (hKe.blk hx (by simp)) (by simp)
       have hz1 := heap_alloc_new w2 (.cells #[.int .i64 0, .slice none 0 0] 94)
       have hKf := (hK.trans hKe).trans (Keep.alloc [] w2 (.cells #[.int .i64 0, .slice none 0 0] 94))
       generalize w2.alloc (.cells #[.int .i64 0, .slice none 0 0] 94) = wz at *)
  all_goals (obtain ⟨r0, r1, r2, r3⟩ := four_cells hxz; obtain ⟨t0, t1⟩ := two_cells hz1; clear hxz hz1 q0 q1 q2 q3 hKe hK2)
  all_goals (go_wp2_with fail)
  all_goals go_ret
  all_goals exact ⟨rfl, hKf⟩
set_option maxRecDepth 100000 in
set_option maxHeartbeats 1600000 in
theorem ofits_arg {sb tb : Nat} (i : Nat) (c l n : Int) (f : Bool) (L : List Int) (w : World) (h : Has w0 F0 (rawA hb sb tb ws kd ds) w) (hc : c = (i : Int) + 1) (hi : ds[i]? = some (n, L)) (hl : ds.length ≤ 256) (hne : l ≠ n) :
    Calls Try.prog 28 #[.pointer (some ⟨hb, 0, none⟩), .agg #[.int .i64 1, .int .i64 c, .int .i64 l, .bool f]] w fun e w' => e = .returned (.int .i64 1) ∧ Keep [] w w' := by
  have HCI := (show Hid (c = (i : Int) + 1) from hc)
  have hd : (l == n) = false := by simpa using hne
  clear hc
  have hK := Keep.alloc [] w (.cells #[.int .i64 1, .int .i64 c, .int .i64 l, .bool f] 32)
  have hx := heap_alloc_new w (.cells #[.int .i64 1, .int .i64 c, .int .i64 l, .bool f] 32)
  have h1 := h.keep0 hK
  clear h
  obtain ⟨g0, g1, g2, g3⟩ := four_cells hx
  go_enter Try.func28, Try.ntmps28
  go_upto_region 3 with fail
  generalize w.alloc (.cells #[.int .i64 1, .int .i64 c, .int .i64 l, .bool f] 32) = w1 at *
  obtain ⟨c0, c1, _⟩ := h1.cells
  obtain ⟨F, hT⟩ := h1.tab
  have HT := (show Hid (∀ w', Keep [] w1 w' → IsTab w' tb F ds) from fun w' K => hT.keep K (by simp))
  have hKz := (Keep.alloc [] w1 (.cells #[.int .i64 0, .slice none 0 0] 94)).trans (Keep.drew [] _)
  obtain ⟨b0, b1, _⟩ := (h1.keep0 hKz).cells
  obtain ⟨d0, d1, d2, d3⟩ := four_cells (hKz.blk hx (by simp))
  have hn1 := World.new_ne _ _ c1
  have hn2 := World.new_ne _ _ g1
  clear h1 hT
  go_region_law (first | (go_simp; refine (tclass_at tb i F ds n c L _ (HT.out _ (by first | exact Keep.drew [] _ | exact (Keep.alloc [] _ _).trans (Keep.drew [] _))) hi (by omega) HCI.out).mono ?_; rintro e w2 ⟨la, lc, rfl, HG, hK2⟩; have hKe : Keep [] w1 w2 := (by first | exact (Keep.drew [] _).trans hK2 | exact ((Keep.alloc [] _ _).trans (Keep.drew [] _)).trans hK2); obtain ⟨q0, q1, q2, q3⟩ := four_cells (hKe.blk hx (by simp)); have hn3 : w2.heap.size ≠ w.heap.size := World.new_ne _ _ q1; have hn4 := hn3.symm; try (have hz := hK2.blk (heap_alloc_new w1 (.cells #[.int .i64 0, .slice none 0 0] 94)) (by simp); obtain ⟨u0, u1⟩ := two_cells hz; obtain ⟨v0, v1⟩ := two_free hz)))
  all_goals first
    | (obtain ⟨hz1, hk4⟩ := two_put hz (.int .i64 n) (.slice la L.length lc)
       have hxz := hk4.blk (hKe.blk hx (by simp)) (by simpa using hn2.symm)
       have hKf := hK.trans (((hKe.mono (T := [w1.heap.size]) (by simp)).trans hk4).drop (by simp))
       clear hk4 hz u0 u1 v0 v1
       generalize (w2.setCell ⟨w1.heap.size, 0, none⟩ (.int .i64 n)).setCell ⟨w1.heap.size, 1, none⟩ (.slice la L.length lc) = wz at *)
    | (have hxz := (Keep.alloc [] w2 (.cells #[.int .i64 n, .slice la L.length lc] 94)).blk (hKe.blk hx (by simp)) (by simp)
       have hz1 := heap_alloc_new w2 (.cells #[.int .i64 n, .slice la L.length lc] 94)
       have hKf := (hK.trans hKe).trans (Keep.alloc [] w2 (.cells #[.int .i64 n, .slice la L.length lc] 94))
       generalize w2.alloc (.cells #[.int .i64 n, .slice la L.length lc] 94) = wz at *)
  all_goals (obtain ⟨r0, r1, r2, r3⟩ := four_cells hxz; obtain ⟨t0, t1⟩ := two_cells hz1; clear hxz hz1 q0 q1 q2 q3 hKe hK2)
  all_goals (go_wp2_with fail)
  all_goals go_ret
  all_goals exact ⟨rfl, hKf⟩
set_option maxRecDepth 100000 in
set_option maxHeartbeats 1600000 in
theorem ofits_yes {sb tb : Nat} (i : Nat) (c l n : Int) (f : Bool) (L : List Int) (w : World) (h : Has w0 F0 (rawA hb sb tb ws kd ds) w) (hc : c = (i : Int) + 1) (hi : ds[i]? = some (n, L)) (hl : ds.length ≤ 256) (hne : l = n) :
    Calls Try.prog 28 #[.pointer (some ⟨hb, 0, none⟩), .agg #[.int .i64 1, .int .i64 c, .int .i64 l, .bool f]] w fun e w' => e = .returned (.int .i64 0) ∧ Keep [] w w' := by
  have HCI := (show Hid (c = (i : Int) + 1) from hc)
  subst hne
  clear hc
  have hK := Keep.alloc [] w (.cells #[.int .i64 1, .int .i64 c, .int .i64 l, .bool f] 32)
  have hx := heap_alloc_new w (.cells #[.int .i64 1, .int .i64 c, .int .i64 l, .bool f] 32)
  have h1 := h.keep0 hK
  clear h
  obtain ⟨g0, g1, g2, g3⟩ := four_cells hx
  go_enter Try.func28, Try.ntmps28
  go_upto_region 3 with fail
  generalize w.alloc (.cells #[.int .i64 1, .int .i64 c, .int .i64 l, .bool f] 32) = w1 at *
  obtain ⟨c0, c1, _⟩ := h1.cells
  obtain ⟨F, hT⟩ := h1.tab
  have HT := (show Hid (∀ w', Keep [] w1 w' → IsTab w' tb F ds) from fun w' K => hT.keep K (by simp))
  have hKz := (Keep.alloc [] w1 (.cells #[.int .i64 0, .slice none 0 0] 94)).trans (Keep.drew [] _)
  obtain ⟨b0, b1, _⟩ := (h1.keep0 hKz).cells
  obtain ⟨d0, d1, d2, d3⟩ := four_cells (hKz.blk hx (by simp))
  have hn1 := World.new_ne _ _ c1
  have hn2 := World.new_ne _ _ g1
  clear h1 hT
  go_region_law (first | (go_simp; refine (tclass_at tb i F ds l c L _ (HT.out _ (by first | exact Keep.drew [] _ | exact (Keep.alloc [] _ _).trans (Keep.drew [] _))) hi (by omega) HCI.out).mono ?_; rintro e w2 ⟨la, lc, rfl, HG, hK2⟩; have hKe : Keep [] w1 w2 := (by first | exact (Keep.drew [] _).trans hK2 | exact ((Keep.alloc [] _ _).trans (Keep.drew [] _)).trans hK2); obtain ⟨q0, q1, q2, q3⟩ := four_cells (hKe.blk hx (by simp)); have hn3 : w2.heap.size ≠ w.heap.size := World.new_ne _ _ q1; have hn4 := hn3.symm; try (have hz := hK2.blk (heap_alloc_new w1 (.cells #[.int .i64 0, .slice none 0 0] 94)) (by simp); obtain ⟨u0, u1⟩ := two_cells hz; obtain ⟨v0, v1⟩ := two_free hz)))
  all_goals first
    | (obtain ⟨hz1, hk4⟩ := two_put hz (.int .i64 l) (.slice la L.length lc)
       have hxz := hk4.blk (hKe.blk hx (by simp)) (by simpa using hn2.symm)
       have hKf := hK.trans (((hKe.mono (T := [w1.heap.size]) (by simp)).trans hk4).drop (by simp))
       clear hk4 hz u0 u1 v0 v1
       generalize (w2.setCell ⟨w1.heap.size, 0, none⟩ (.int .i64 l)).setCell ⟨w1.heap.size, 1, none⟩ (.slice la L.length lc) = wz at *)
    | (have hxz := (Keep.alloc [] w2 (.cells #[.int .i64 l, .slice la L.length lc] 94)).blk (hKe.blk hx (by simp)) (by simp)
       have hz1 := heap_alloc_new w2 (.cells #[.int .i64 l, .slice la L.length lc] 94)
       have hKf := (hK.trans hKe).trans (Keep.alloc [] w2 (.cells #[.int .i64 l, .slice la L.length lc] 94))
       generalize w2.alloc (.cells #[.int .i64 l, .slice la L.length lc] 94) = wz at *)
  all_goals (obtain ⟨r0, r1, r2, r3⟩ := four_cells hxz; obtain ⟨t0, t1⟩ := two_cells hz1; clear hxz hz1 q0 q1 q2 q3 hKe hK2)
  all_goals (go_wp2_with fail)
  all_goals go_ret
  all_goals exact ⟨rfl, hKf⟩
theorem ofits {sb tb : Nat} (k c l E : Int) (f : Bool) (w : World) (h : Has w0 F0 (rawA hb sb tb ws kd ds) w) (hT : FitsT ds k c l E) (hl : ds.length ≤ 256) :
    Calls Try.prog 28 #[.pointer (some ⟨hb, 0, none⟩), .agg #[.int .i64 k, .int .i64 c, .int .i64 l, .bool f]] w fun e w' => e = .returned (.int .i64 E) ∧ Keep [] w w' := by
  cases hT with
  | other hk => exact ofits_other _ k c l f w hk
  | none hk hc => subst hk; exact ofits_none c l f w h hc
  | arg i n L hk hc hi hne => subst hk; exact ofits_arg i c l n f L w h hc hi hl hne
  | yes i L hk hc hi => subst hk; exact ofits_yes i c l l f L w h hc hi hl rfl

/-! ### Make -/
set_option maxRecDepth 100000 in
set_option maxHeartbeats 1600000 in
theorem omake_nil (k c l : Int) (f : Bool) (w : World) :
    Calls Try.prog 10 #[.pointer none, .agg #[.int .i64 k, .int .i64 c, .int .i64 l, .bool f]] w fun e w' => e = .returned (.tuple #[.int .i64 0, .int .i64 2]) ∧ Keep [] w w' := by
  go_enter Try.func10, Try.ntmps10
  go_wp2_with fail
  go_ret2
  exact ⟨rfl, Keep.alloc [] _ _⟩
set_option maxRecDepth 100000 in
set_option maxHeartbeats 1600000 in
theorem omake_arg (k c l : Int) (f : Bool) (w : World) (hm : (mayH k c l f && !f) = false) :
    Calls Try.prog 10 #[.pointer (some ⟨hb, 0, none⟩), .agg #[.int .i64 k, .int .i64 c, .int .i64 l, .bool f]] w fun e w' => e = .returned (.tuple #[.int .i64 0, .int .i64 1]) ∧ Keep [] w w' := by
  have hK := Keep.alloc [] w (.cells #[.int .i64 k, .int .i64 c, .int .i64 l, .bool f] 32)
  have hx := heap_alloc_new w (.cells #[.int .i64 k, .int .i64 c, .int .i64 l, .bool f] 32)
  obtain ⟨g0, g1, g2, g3⟩ := four_cells hx
  cases hm1 : mayH k c l f
  · have HM := (show Hid (mayH k c l f = false) from hm1)
    clear hm hm1
    go_enter Try.func10, Try.ntmps10
    go_wp2_with (first | (go_at_call 27; refine (hmay_any k c l f _).mono ?_; rw [HM.out]; rintro e w1 ⟨rfl, hK1⟩))
    go_ret2
    exact ⟨rfl, hK.trans hK1⟩
  · cases f
    · rw [hm1] at hm; cases hm
    · have HM := (show Hid (mayH k c l true = true) from hm1)
      clear hm hm1
      go_enter Try.func10, Try.ntmps10
      go_wp2_with (first | (go_at_call 27; refine (hmay_any k c l true _).mono ?_; rw [HM.out]; rintro e w1 ⟨rfl, hK1⟩; obtain ⟨d0, d1, d2, d3⟩ := four_cells (hK1.blk hx (by simp))))
      go_ret2
      exact ⟨rfl, hK.trans hK1⟩
set_option maxRecDepth 100000 in
set_option maxHeartbeats 1600000 in
theorem omake_fits {sb tb : Nat} (k c l E : Int) (w : World) (h : Has w0 F0 (rawA hb sb tb ws kd ds) w) (hm : mayH k c l false = true) (hT : FitsT ds k c l E) (hE : E ≠ 0) (hl : ds.length ≤ 256) :
    Calls Try.prog 10 #[.pointer (some ⟨hb, 0, none⟩), .agg #[.int .i64 k, .int .i64 c, .int .i64 l, .bool false]] w fun e w' => e = .returned (.tuple #[.int .i64 0, .int .i64 E]) ∧ Keep [] w w' := by
  have hK := Keep.alloc [] w (.cells #[.int .i64 k, .int .i64 c, .int .i64 l, .bool false] 32)
  have hx := heap_alloc_new w (.cells #[.int .i64 k, .int .i64 c, .int .i64 l, .bool false] 32)
  obtain ⟨g0, g1, g2, g3⟩ := four_cells hx
  have HX := (show Hid (Has w0 F0 (rawA hb sb tb ws kd ds) (w.alloc (.cells #[.int .i64 k, .int .i64 c, .int .i64 l, .bool false] 32))) from h.keep0 hK)
  have HM := (show Hid (mayH k c l false = true) from hm)
  have HT := (show Hid (FitsT ds k c l E) from hT)
  have hd : (E == 0) = false := by simpa using hE
  clear hm h hT
  go_enter Try.func10, Try.ntmps10
  go_wp2_with (first | (go_at_call 27; refine (hmay_any k c l false _).mono ?_; rw [HM.out]; rintro e w1 ⟨rfl, hK1⟩; obtain ⟨d0, d1, d2, d3⟩ := four_cells (hK1.blk hx (by simp))) | (go_at_call 28; refine (ofits k c l E false _ (HX.out.keep0 hK1) HT.out hl).mono ?_; rintro e w2 ⟨rfl, hK2⟩))
  go_ret2
  exact ⟨rfl, (hK.trans hK1).trans hK2⟩

end

end Go.Proofs.Ytgpidokklhjfdaa

/-
  Package object: what Make, Final and New answer and leave.
-/
namespace Go.Proofs.Ytgpidokklhjfdaa
open Go.RowKit

section
variable {w0 : World} {F0 : List Nat} {hb : Nat} {ws : List Int} {kd : List PK} {ds : List (Int × List Int)}

set_option maxRecDepth 100000 in
set_option maxHeartbeats 1600000 in
theorem omake_full {sb tb : Nat} (k c l : Int) (w : World) (h : Has w0 F0 (rawA hb sb tb ws kd ds) w) (hw : WF kd) (hm : mayH k c l false = true) (hT : FitsT ds k c l 0) (hl : ds.length ≤ 256) (hr : AllocT kd ws (l + 1) 0 3 ws kd) :
    Calls Try.prog 10 #[.pointer (some ⟨hb, 0, none⟩), .agg #[.int .i64 k, .int .i64 c, .int .i64 l, .bool false]] w fun e w' => e = .returned (.tuple #[.int .i64 0, .int .i64 3]) ∧ Has w0 F0 (rawA hb sb tb ws kd ds) w' := by
  have hK := Keep.alloc [] w (.cells #[.int .i64 k, .int .i64 c, .int .i64 l, .bool false] 32)
  have hx := heap_alloc_new w (.cells #[.int .i64 k, .int .i64 c, .int .i64 l, .bool false] 32)
  obtain ⟨g0, g1, g2, g3⟩ := four_cells hx
  have HX := (show Hid (Has w0 F0 ((rawA hb sb tb ws kd ds).star (blockA w.heap.size (.cells #[.int .i64 k, .int .i64 c, .int .i64 l, .bool false] 32))) (w.alloc (.cells #[.int .i64 k, .int .i64 c, .int .i64 l, .bool false] 32))) from h.more hK ⟨rfl, hx⟩ (fun k hk => by simp at hk; omega))
  have HM := (show Hid (mayH k c l false = true) from hm)
  have HT := (show Hid (FitsT ds k c l 0) from hT)
  have hbd := mayH_bd hm
  have HR := (show Hid (AllocT kd ws (l + 1) 0 3 ws kd) from hr)
  have HWR := (show Hid (IntKind.i64.wrap (l + 1) = l + 1) from IntWalk.i64_in _ (by omega))
  clear hm h hT hr
  go_enter Try.func10, Try.ntmps10
  go_wp2_with (first | (go_at_call 27; refine (hmay_any k c l false _).mono ?_; rw [HM.out]; rintro e w1 ⟨rfl, hK1⟩; have hx1 := hK1.blk hx (by simp); obtain ⟨d0, d1, d2, d3⟩ := four_cells hx1) | (go_at_call 28; refine (ofits k c l 0 false _ (HX.out.fst.keep0 hK1) HT.out hl).mono ?_; rintro e w2 ⟨rfl, hK2⟩))
  have hx2 := hK2.blk hx1 (by simp)
  have hX2 := ((HX.out.keep0 hK1).keep0 hK2).keep0 (Keep.drew [] w2)
  obtain ⟨b0, b1, _⟩ := hX2.fst.cells
  have HX2 := (show Hid (Has w0 F0 ((rawA hb sb tb ws kd ds).star (blockA w.heap.size (.cells #[.int .i64 k, .int .i64 c, .int .i64 l, .bool false] 32))) w2.drew) from hX2)
  obtain ⟨p0, p1, p2, p3⟩ := four_cells ((Keep.drew [] w2).blk hx2 (by simp))
  clear hX2 hx hx1 hx2 hK hK1 hK2 d0 d1 d2 d3 g0 g1 g2 g3
  go_region_held3 (fun wz => wz.cell? ⟨hb, 0, none⟩ = some (.pointer (some ⟨sb, 0, none⟩)) ∧ wz.cell? ⟨w.heap.size, 2, none⟩ = some (.int .i64 l)) (go_keep) (first | (go_at_call 29; rw [HWR.out]; refine (has_left HX2.out (fun F hF => xalloc _ (l + 1) 0 3 ws kd hF hw HR.out)).mono ?_; rintro e w3 ⟨rfl, hX3⟩; have HX3 := (show Hid (Has w0 F0 ((rawA hb sb tb ws kd ds).star (blockA w.heap.size (.cells #[.int .i64 k, .int .i64 c, .int .i64 l, .bool false] 32))) w3) from hX3); obtain ⟨u0, u1, _⟩ := hX3.fst.cells; obtain ⟨v0, v1, v2, v3⟩ := four_cells (hX3.snd.fact (fun _ h => h.2)); clear hX3))
  go_wp2_with fail
  go_ret2
  exact ⟨rfl, HX3.out.fst⟩
set_option maxRecDepth 100000 in
set_option maxHeartbeats 1600000 in
theorem omake_yes {sb tb : Nat} (k c l : Int) (a : Nat) (ws' : List Int) (kd' : List PK) (w : World) (h : Has w0 F0 (rawA hb sb tb ws kd ds) w) (hw : WF kd) (hm : mayH k c l false = true) (hT : FitsT ds k c l 0) (hl : ds.length ≤ 256) (hr : AllocT kd ws (l + 1) a 0 ws' kd') (hlt : a < ws'.length) :
    Calls Try.prog 10 #[.pointer (some ⟨hb, 0, none⟩), .agg #[.int .i64 k, .int .i64 c, .int .i64 l, .bool false]] w fun e w' => e = .returned (.tuple #[.int .i64 a, .int .i64 0]) ∧ Has w0 F0 (rawA hb sb tb (ws'.set a (putH k c l false)) kd' ds) w' := by
  have hK := Keep.alloc [] w (.cells #[.int .i64 k, .int .i64 c, .int .i64 l, .bool false] 32)
  have hx := heap_alloc_new w (.cells #[.int .i64 k, .int .i64 c, .int .i64 l, .bool false] 32)
  obtain ⟨g0, g1, g2, g3⟩ := four_cells hx
  have HX := (show Hid (Has w0 F0 ((rawA hb sb tb ws kd ds).star (blockA w.heap.size (.cells #[.int .i64 k, .int .i64 c, .int .i64 l, .bool false] 32))) (w.alloc (.cells #[.int .i64 k, .int .i64 c, .int .i64 l, .bool false] 32))) from h.more hK ⟨rfl, hx⟩ (fun k hk => by simp at hk; omega))
  have HM := (show Hid (mayH k c l false = true) from hm)
  have HT := (show Hid (FitsT ds k c l 0) from hT)
  have hbd := mayH_bd hm
  have HR := (show Hid (AllocT kd ws (l + 1) a 0 ws' kd') from hr)
  have HWR := (show Hid (IntKind.i64.wrap (l + 1) = l + 1) from IntWalk.i64_in _ (by omega))
  clear hm h hT hr
  go_enter Try.func10, Try.ntmps10
  go_wp2_with (first | (go_at_call 27; refine (hmay_any k c l false _).mono ?_; rw [HM.out]; rintro e w1 ⟨rfl, hK1⟩; have hx1 := hK1.blk hx (by simp); obtain ⟨d0, d1, d2, d3⟩ := four_cells hx1) | (go_at_call 28; refine (ofits k c l 0 false _ (HX.out.fst.keep0 hK1) HT.out hl).mono ?_; rintro e w2 ⟨rfl, hK2⟩))
  have hx2 := hK2.blk hx1 (by simp)
  have hX2 := ((HX.out.keep0 hK1).keep0 hK2).keep0 (Keep.drew [] w2)
  obtain ⟨b0, b1, _⟩ := hX2.fst.cells
  have HX2 := (show Hid (Has w0 F0 ((rawA hb sb tb ws kd ds).star (blockA w.heap.size (.cells #[.int .i64 k, .int .i64 c, .int .i64 l, .bool false] 32))) w2.drew) from hX2)
  obtain ⟨p0, p1, p2, p3⟩ := four_cells ((Keep.drew [] w2).blk hx2 (by simp))
  clear hX2 hx hx1 hx2 hK hK1 hK2 d0 d1 d2 d3 g0 g1 g2 g3
  go_region_held3 (fun wz => wz.cell? ⟨hb, 0, none⟩ = some (.pointer (some ⟨sb, 0, none⟩)) ∧ wz.cell? ⟨w.heap.size, 2, none⟩ = some (.int .i64 l)) (go_keep) (first | (go_at_call 29; rw [HWR.out]; refine (has_left HX2.out (fun F hF => xalloc _ (l + 1) a 0 ws' kd' hF hw HR.out)).mono ?_; rintro e w3 ⟨rfl, hX3⟩; have HX3 := (show Hid (Has w0 F0 ((rawA hb sb tb ws' kd' ds).star (blockA w.heap.size (.cells #[.int .i64 k, .int .i64 c, .int .i64 l, .bool false] 32))) w3) from hX3); obtain ⟨u0, u1, _⟩ := hX3.fst.cells; obtain ⟨v0, v1, v2, v3⟩ := four_cells (hX3.snd.fact (fun _ h => h.2)); clear hX3))
  go_wp2_with (first | (go_at_call 30; refine (osethead a k c l false _ HX3.out.fst HM.out hlt).mono ?_; rintro e w4 ⟨rfl, hX4⟩))
  go_ret2
  exact ⟨rfl, hX4⟩
theorem omake (k c l N E : Int) (f : Bool) (ws' : List Int) (kd' : List PK) (w : World) (h : Has w0 F0 (heapA hb ws kd ds) w) (hT : MakeT kd ws ds k c l f N E ws' kd') :
    Calls Try.prog 10 #[.pointer (some ⟨hb, 0, none⟩), .agg #[.int .i64 k, .int .i64 c, .int .i64 l, .bool f]] w fun e w' => e = .returned (.tuple #[.int .i64 N, .int .i64 E]) ∧ Has w0 F0 (heapA hb ws' kd' ds) w' := by
  have hf := h.fine
  have hf' := (hT.fine hf).1
  obtain ⟨sb, tb, hr⟩ := h.raw
  cases hT with
  | arg hm => exact has_same h (omake_arg k c l f w hm)
  | fits E hm e hF hE => subst e; exact has_same h (omake_fits k c l E w hr hm hF hE hf.few)
  | full hm e hF hA =>
    subst e
    refine (omake_full k c l w hr hf.wf hm hF hf.few (.no (by have := mayH_bd hm; have := room_ge (l + 1) (by omega) (by omega); omega) hA)).mono ?_
    rintro e w' ⟨rfl, hX⟩
    exact ⟨rfl, hX.heap hf⟩
  | yes a b kd' hm e hF hA hb' =>
    subst e
    obtain ⟨b', hb2, h1, h2, h3, h4, h5, _⟩ := hA.spec hf.wf
    have hl := hf.len
    refine (omake_yes k c l a _ kd' w hr hf.wf hm hF hf.few (.yes a b kd' hA hb') ?_).mono ?_
    · rw [fill0_length _ _ _ (by omega)]; omega
    · rintro e w' ⟨rfl, hX⟩
      exact ⟨rfl, hX.heap hf'⟩

/-! ### Final -/
end

/-! ### New -/
set_option maxHeartbeats 1600000 in
theorem onew_no (n : Int) (w : World) (h : ¬ (1 ≤ n ∧ n ≤ 256)) :
    Calls Try.prog 7 #[.int .i64 n] w fun e w' => e = .returned (.tuple #[.pointer none, .int .i64 1]) ∧ Keep [] w w' := by
  have HN := (show Hid (¬ (1 ≤ n ∧ n ≤ 256)) from h)
  clear h
  go_enter Try.func7, Try.ntmps7
  go_wp2_with (first | (go_at_call 25; refine (snew_no n _ HN.out).mono ?_; rintro e w1 ⟨rfl, rfl⟩))
  go_ret2
  exact ⟨rfl, Keep.refl _ _⟩
set_option maxHeartbeats 1600000 in
theorem onew (n : Nat) (w : World) (h1 : 1 ≤ n) (h2 : n ≤ 256) :
    Calls Try.prog 7 #[.int .i64 n] w fun e w' => ∃ hb F, e = .returned (.tuple #[.pointer (some ⟨hb, 0, none⟩), .int .i64 0]) ∧ (heapA hb (zeros (64 * n)) (freshK n) []).at' w' F ∧ Keep [] w w' ∧ ∀ k, k ∈ F → w.heap.size ≤ k := by
  go_enter Try.func7, Try.ntmps7
  go_wp2_with (first | (go_at_call 25; refine (snew_ok n _ h1 h2).mono ?_; rintro e w1 ⟨sb, F, rfl, hS, hK1, hsb, hF⟩) | (go_at_call 26; refine (tnew _).mono ?_; rintro e w2 ⟨tb, rfl, hT, hK2, htb⟩))
  go_ret2
  have hlb := hT.lt tb (by simp)
  have hlF := hS.lt
  have hs1 := hK1.size
  have hs2 := hK2.size
  have hK3 := Keep.alloc [] w2 (.cells #[.pointer (some ⟨sb, 0, none⟩), .pointer (some ⟨tb, 0, none⟩)] 65)
  refine ⟨_, w2.heap.size :: (F ++ [tb]), rfl, ⟨⟨sb, tb, [w2.heap.size], F ++ [tb], by simp, ⟨rfl, heap_alloc_new w2 _⟩, ⟨F, [tb], by simp, (hS.keep0 hK2).keep0 hK3, hT.keep hK3 (by simp), ?_⟩, ?_⟩, Fine.fresh n h1 h2⟩, (hK1.trans hK2).trans hK3, ?_⟩
  · intro k hk
    have := hlF k hk
    simp; omega
  · intro k hk
    simp at hk
    subst hk
    simp only [List.mem_append, List.mem_singleton, not_or]
    exact ⟨fun e => by have := hlF _ e; omega, by omega⟩
  · intro k hk
    simp at hk
    rcases hk with rfl | hk | rfl
    · omega
    · exact hF k hk
    · omega
/-- A new heap, younger than all there was. -/
theorem onew_has (n : Nat) (w : World) (h1 : 1 ≤ n) (h2 : n ≤ 256) :
    Calls Try.prog 7 #[.int .i64 n] w fun e w' => ∃ hb, e = .returned (.tuple #[.pointer (some ⟨hb, 0, none⟩), .int .i64 0]) ∧ Has w [] (heapA hb (zeros (64 * n)) (freshK n) []) w' := by
  refine (onew n w h1 h2).mono ?_
  rintro e w' ⟨hb, F, rfl, hH, hK, hF⟩
  exact ⟨hb, rfl, F, hH, hK, fun k hk => .inr (hF k hk)⟩

end Go.Proofs.Ytgpidokklhjfdaa

/-
  Package object: what upTo, words and Refs answer.
-/
namespace Go.Proofs.Ytgpidokklhjfdaa
open Go.RowKit

theorem Row.ints {w : World} {t : TypeId} {g : Nat} {L : List Int} (h : Row w t g L) (hb : ∀ i : Nat, inI (L[i]?.getD 0)) : IntsAt w (some ⟨g, 0, none⟩) L :=
  ⟨fun _ => ⟨g, 0, rfl, h.lt, fun i hi => by rw [Nat.zero_add]; exact h.cell hi⟩, fun i => (hb i).1, fun i => (hb i).2⟩
theorem upL_bd (l : Int) (hl : l ≤ 1023) : ∀ i : Nat, inI ((upL l)[i]?.getD 0) := by
  intro i
  by_cases hi : i < l.toNat
  · rw [upL_get l i hi]; unfold inI; omega
  · rw [List.getElem?_eq_none (by rw [upL_length]; omega)]; exact inI_0
/-- The fields of an object of l fields at b. -/
def wordsL (ws : List Int) (b : Nat) (l : Int) : List Int := (List.range l.toNat).map (fun i => ws[b + 1 + i]?.getD 0)
theorem wordsL_length (ws : List Int) (b : Nat) (l : Int) : (wordsL ws b l).length = l.toNat := by simp [wordsL]
theorem wordsL_get (ws : List Int) (b : Nat) (l : Int) (i : Nat) (h : i < l.toNat) : (wordsL ws b l)[i]?.getD 0 = ws[b + 1 + i]?.getD 0 := by simp [wordsL, h]
theorem wordsL_bd {ws : List Int} (h : ∀ i : Nat, inI (ws[i]?.getD 0)) (b : Nat) (l : Int) : ∀ i : Nat, inI ((wordsL ws b l)[i]?.getD 0) := by
  intro i
  by_cases hi : i < l.toNat
  · rw [wordsL_get ws b l i hi]; exact h _
  · rw [List.getElem?_eq_none (by rw [wordsL_length]; omega)]; exact inI_0

set_option maxHeartbeats 1600000 in
theorem oupto (l : Int) (k : Nat) (w : World) (hk : l = k) (hl : l ≤ 1023) :
    Calls Try.prog 49 #[.int .i64 l] w fun e w' => ∃ z, e = .returned (.slice (some ⟨z, 0, none⟩) k k) ∧ Row w' 3 z (upL l) ∧ Keep [] w w' ∧ w.heap.size ≤ z := by
  subst hk
  have hmk : ∀ w, (Instr.makeSlice 28 (.int .i64 (k : Int)) (.int .i64 (k : Int))).run Try.prog w = .ok (.slice (some ⟨w.heap.size, 0, none⟩) k k) (w.alloc (.cells (madeCells #[.int .i64 0] k) 3)) :=
    fun w => run_make_row' (P := Try.prog) 28 3 (.int .i64 0) 8 Try.underlying28 Try.infoIntC rfl .i64 .i64 k (by omega) (by omega) w
  go_enter Try.func49, Try.ntmps49
  go_wp2
  have hR := Row.made w 3 k
  have hK := Keep.alloc [] w (.cells (madeCells #[.int .i64 0] k) 3)
  have hz : w.heap.size < (w.alloc (.cells (madeCells #[.int .i64 0] k) 3)).heap.size := by simp
  clear hmk
  generalize w.alloc (.cells (madeCells #[.int .i64 0] k) 3) = w1 at *
  obtain ⟨z, hzz⟩ : ∃ z, w.heap.size = z := ⟨_, rfl⟩
  rw [hzz] at hR hz ⊢
  go_loopw [9] (fun i wr => ∃ (j : Nat) (L : List Int), i = .int .i64 j ∧ j ≤ k ∧ Hid (L.length = k) ∧ Hid (∀ t : Nat, t < j → L[t]?.getD 0 = (t : Int)) ∧ Row wr 3 z L ∧ Keep [z] w wr) (fun i _ => k - (intOf i).toNat)
  case atStart => exact ⟨0, _, rfl, by omega, zeros_length k, fun t h => by omega, hR, hK.mono (by simp)⟩
  case round =>
    obtain ⟨j, L, rfl, hj, HL, HJ, hR2, hK2⟩ := hrel
    clear hR hK
    by_cases hlt : j < k
    · have y1 := hR2.cell (i := j) (by rw [HL.out]; exact hlt)
      have y2 := hR2.free j
      have HR := (show Hid (Row (wr.setCell ⟨z, j, none⟩ (.int .i64 (j : Int))) 3 z (L.set j (j : Int))) from hR2.put j _)
      have hK3 : Keep [z] w (wr.setCell ⟨z, j, none⟩ (.int .i64 (j : Int))) := hK2.trans (Keep.setCell _ _ (by simp))
      clear hR2 hK2
      go_wp2
      go_roundw
      case rel =>
        refine ⟨j + 1, L.set j (j : Int), by go_num, by omega, by show _ = _; rw [List.length_set]; exact HL.out, fun t ht => ?_, HR.out, hK3⟩
        by_cases e : t = j
        · subst e; rw [set_get_same _ _ _ (by rw [HL.out]; exact hlt)]
        · rw [set_get_other _ _ _ _ (fun e' => e e'.symm)]; exact HJ.out t (by omega)
      case measure => simp [intOf]; omega
    · obtain rfl : j = k := by omega
      have hLe : L = upL j := eq_of_getD (by rw [HL.out, upL_length]; omega) (fun t => by
        by_cases ht : t < j
        · rw [HJ.out t ht, upL_get _ t (by omega)]
        · rw [List.getElem?_eq_none (by rw [HL.out]; omega), List.getElem?_eq_none (by rw [upL_length]; omega)])
      rw [hLe] at hR2
      have HR := (show Hid (Row wr 3 z (upL j)) from hR2)
      clear hR2 hLe
      go_wp2
      go_ret
      exact ⟨z, rfl, HR.out, hK2.drop (by simp; omega), by omega⟩

section
variable {w0 : World} {F0 : List Nat} {hb : Nat} {ws : List Int} {kd : List PK} {ds : List (Int × List Int)}
set_option maxHeartbeats 1600000 in
theorem orefs_other (pv : Option Addr) (a k c l E : Int) (f : Bool) (w : World) (hk : k ≠ 1 ∧ k ≠ 2 ∧ k ≠ 4) (hc : Calls Try.prog 47 #[.pointer pv, .int .i64 a] w fun e w' => e = .returned (.tuple #[.agg #[.int .i64 k, .int .i64 c, .int .i64 l, .bool f], .int .i64 E]) ∧ Keep [] w w') :
    Calls Try.prog 22 #[.pointer pv, .int .i64 a] w fun e w' => e = .returned (.slice none 0 0) ∧ Keep [] w w' := by
  have HC := (show Hid (Calls Try.prog 47 #[.pointer pv, .int .i64 a] w fun e w' => e = .returned (.tuple #[.agg #[.int .i64 k, .int .i64 c, .int .i64 l, .bool f], .int .i64 E]) ∧ Keep [] w w') from hc)
  have hd1 : (k == 1) = false := by simpa using hk.1
  have hd2 : (k == 2) = false := by simpa using hk.2.1
  have hd4 : (k == 4) = false := by simpa using hk.2.2
  clear hc
  go_enter Try.func22, Try.ntmps22
  go_wp2_with (first | (go_at_call 47; refine HC.out.mono ?_; rintro e w1 ⟨rfl, hK1⟩; obtain ⟨g0, g1, g2, g3⟩ := four_cells (heap_alloc_new w1 (.cells #[.int .i64 k, .int .i64 c, .int .i64 l, .bool f] 32))))
  go_ret
  exact ⟨rfl, hK1.trans (Keep.alloc [] _ _)⟩
set_option maxHeartbeats 1600000 in
theorem orefs_ref (pv : Option Addr) (a c l E : Int) (f : Bool) (w : World) (hc : Calls Try.prog 47 #[.pointer pv, .int .i64 a] w fun e w' => e = .returned (.tuple #[.agg #[.int .i64 4, .int .i64 c, .int .i64 l, .bool f], .int .i64 E]) ∧ Keep [] w w') :
    Calls Try.prog 22 #[.pointer pv, .int .i64 a] w fun e w' => ∃ z, e = .returned (.slice (some ⟨z, 0, none⟩) 1 1) ∧ Row w' 3 z [2] ∧ w.heap.size ≤ z ∧ Keep [] w w' := by
  have HC := (show Hid (Calls Try.prog 47 #[.pointer pv, .int .i64 a] w fun e w' => e = .returned (.tuple #[.agg #[.int .i64 4, .int .i64 c, .int .i64 l, .bool f], .int .i64 E]) ∧ Keep [] w w') from hc)
  clear hc
  go_enter Try.func22, Try.ntmps22
  go_wp2_with (first | (go_at_call 47; refine HC.out.mono ?_; rintro e w1 ⟨rfl, hK1⟩; obtain ⟨g0, g1, g2, g3⟩ := four_cells (heap_alloc_new w1 (.cells #[.int .i64 4, .int .i64 c, .int .i64 l, .bool f] 32))))
  go_ret
  have hs := hK1.size
  exact ⟨_, rfl, second_block w1 _ _ _, by omega, (hK1.trans (Keep.alloc [] _ _)).trans (Keep.alloc [] _ _)⟩
set_option maxHeartbeats 1600000 in
theorem orefs_all (pv : Option Addr) (a c l E : Int) (q : Nat) (f : Bool) (w : World) (hq : l = q) (hl : l ≤ 1023) (hc : Calls Try.prog 47 #[.pointer pv, .int .i64 a] w fun e w' => e = .returned (.tuple #[.agg #[.int .i64 2, .int .i64 c, .int .i64 l, .bool f], .int .i64 E]) ∧ Keep [] w w') :
    Calls Try.prog 22 #[.pointer pv, .int .i64 a] w fun e w' => ∃ z, e = .returned (.slice (some ⟨z, 0, none⟩) q q) ∧ Row w' 3 z (upL l) ∧ w.heap.size ≤ z ∧ Keep [] w w' := by
  have HC := (show Hid (Calls Try.prog 47 #[.pointer pv, .int .i64 a] w fun e w' => e = .returned (.tuple #[.agg #[.int .i64 2, .int .i64 c, .int .i64 l, .bool f], .int .i64 E]) ∧ Keep [] w w') from hc)
  have HQ := (show Hid (l = q) from hq)
  clear hc hq
  go_enter Try.func22, Try.ntmps22
  go_wp2_with (first | (go_at_call 47; refine HC.out.mono ?_; rintro e w1 ⟨rfl, hK1⟩; obtain ⟨g0, g1, g2, g3⟩ := four_cells (heap_alloc_new w1 (.cells #[.int .i64 2, .int .i64 c, .int .i64 l, .bool f] 32))) | (go_at_call 49; refine (oupto l q _ HQ.out hl).mono ?_; rintro e w2 ⟨z, rfl, hR, hK2, hz⟩))
  go_ret
  have hs := hK1.size
  simp at hz
  exact ⟨z, rfl, hR, by omega, (hK1.trans (Keep.alloc [] _ _)).trans hK2⟩
set_option maxRecDepth 100000 in
set_option maxHeartbeats 3200000 in
theorem orefs_plain {sb tb : Nat} (i : Nat) (a c l n : Int) (f : Bool) (L : List Int) (w : World) (h : Has w0 F0 (rawA hb sb tb ws kd ds) w) (hci : c = (i : Int) + 1) (hi : ds[i]? = some (n, L)) (hl : ds.length ≤ 256) (hc : Calls Try.prog 47 #[.pointer (some ⟨hb, 0, none⟩), .int .i64 a] w fun e w' => e = .returned (.tuple #[.agg #[.int .i64 1, .int .i64 c, .int .i64 l, .bool f], .int .i64 0]) ∧ Keep [] w w') :
    Calls Try.prog 22 #[.pointer (some ⟨hb, 0, none⟩), .int .i64 a] w fun e w' => ∃ la lc, e = .returned (.slice la L.length lc) ∧ IntsAt w' la L ∧ (∀ x, la = some x → w.heap.size ≤ x.block) ∧ Keep [] w w' := by
  have HC := (show Hid (Calls Try.prog 47 #[.pointer (some ⟨hb, 0, none⟩), .int .i64 a] w fun e w' => e = .returned (.tuple #[.agg #[.int .i64 1, .int .i64 c, .int .i64 l, .bool f], .int .i64 0]) ∧ Keep [] w w') from hc)
  have HCI := (show Hid (c = (i : Int) + 1) from hci)
  have HX := (show Hid (Has w0 F0 (rawA hb sb tb ws kd ds) w) from h)
  clear hc hci h
  go_enter Try.func22, Try.ntmps22
  go_upto_region 4 with (first | (go_at_call 47; refine HC.out.mono ?_; rintro e w9 ⟨rfl, hK9⟩; have hx := heap_alloc_new w9 (.cells #[.int .i64 1, .int .i64 c, .int .i64 l, .bool f] 32); obtain ⟨g0, g1, g2, g3⟩ := four_cells hx))
  have hK := hK9.trans (Keep.alloc [] w9 (.cells #[.int .i64 1, .int .i64 c, .int .i64 l, .bool f] 32))
  have h1 := HX.out.keep0 hK
  generalize w9.alloc (.cells #[.int .i64 1, .int .i64 c, .int .i64 l, .bool f] 32) = w1 at *
  have hlx := lt_of_block hx
  have hs9 := hK9.size
  obtain ⟨bx, hbx⟩ : ∃ bx, w9.heap.size = bx := ⟨_, rfl⟩
  rw [hbx] at hx hlx hs9 ⊢
  clear g0 g1 g2 g3 hK9 hbx
  obtain ⟨g0, g1, g2, g3⟩ := four_cells hx
  obtain ⟨c0, c1, _⟩ := h1.cells
  obtain ⟨F, hT⟩ := h1.tab
  have HT := (show Hid (∀ w', Keep [] w1 w' → IsTab w' tb F ds) from fun w' K => hT.keep K (by simp))
  have hKz := (Keep.alloc [] w1 (.cells #[.int .i64 0, .slice none 0 0] 94)).trans (Keep.drew [] _)
  obtain ⟨b0, b1, _⟩ := (h1.keep0 hKz).cells
  obtain ⟨d0, d1, d2, d3⟩ := four_cells (hKz.blk hx (by simp))
  have hn1 := World.new_ne _ _ c1
  have hn2 := World.new_ne _ _ g1
  clear h1 hT
  go_region_law (first | (go_simp; refine (tclass_at tb i F ds n c L _ (HT.out _ (by first | exact Keep.drew [] _ | exact (Keep.alloc [] _ _).trans (Keep.drew [] _))) hi (by omega) HCI.out).mono ?_; rintro e w2 ⟨la, lc, rfl, HG, hK2⟩; have hKe : Keep [] w1 w2 := (by first | exact (Keep.drew [] _).trans hK2 | exact ((Keep.alloc [] _ _).trans (Keep.drew [] _)).trans hK2); obtain ⟨q0, q1, q2, q3⟩ := four_cells (hKe.blk hx (by simp)); have hn3 : w2.heap.size ≠ bx := World.new_ne _ _ q1; have hn4 := hn3.symm; try (have hz := hK2.blk (heap_alloc_new w1 (.cells #[.int .i64 0, .slice none 0 0] 94)) (by simp); obtain ⟨u0, u1⟩ := two_cells hz; obtain ⟨v0, v1⟩ := two_free hz)))
  all_goals first
    | (obtain ⟨hz1, hk4⟩ := two_put hz (.int .i64 n) (.slice la L.length lc)
       have hKf := hK.trans (((hKe.mono (T := [w1.heap.size]) (by simp)).trans hk4).drop (by simp))
       have HI := (show Hid (IntsAt ((w2.setCell ⟨w1.heap.size, 0, none⟩ (.int .i64 n)).setCell ⟨w1.heap.size, 1, none⟩ (.slice la L.length lc)) la L ∧ ∀ x, la = some x → w.heap.size ≤ x.block) from by
         obtain ⟨_, _, e, h1, h2, h3⟩ := HG
         cases e
         have := hK.size
         refine ⟨h1.keep hk4 (fun _ x e => ?_), fun x e => ?_⟩
         · have := (h3 x e).1; simp at this ⊢; omega
         · have := (h3 x e).1; simp at this; omega)
       clear hk4 hz u0 u1 v0 v1 HG
       generalize (w2.setCell ⟨w1.heap.size, 0, none⟩ (.int .i64 n)).setCell ⟨w1.heap.size, 1, none⟩ (.slice la L.length lc) = wz at *)
    | (have hz1 := heap_alloc_new w2 (.cells #[.int .i64 n, .slice la L.length lc] 94)
       have hKf := (hK.trans hKe).trans (Keep.alloc [] w2 (.cells #[.int .i64 n, .slice la L.length lc] 94))
       have HI := (show Hid (IntsAt (w2.alloc (.cells #[.int .i64 n, .slice la L.length lc] 94)) la L ∧ ∀ x, la = some x → w.heap.size ≤ x.block) from by
         obtain ⟨_, _, e, h1, h2, h3⟩ := HG
         cases e
         have := hK.size
         refine ⟨h1.keep (Keep.alloc [] _ _) (fun _ x e => by simp), fun x e => ?_⟩
         have := (h3 x e).1; simp at this; omega)
       clear HG
       generalize w2.alloc (.cells #[.int .i64 n, .slice la L.length lc] 94) = wz at *)
  all_goals (obtain ⟨t0, t1⟩ := two_cells hz1; clear hz1 q0 q1 q2 q3 hKe hK2)
  all_goals (go_wp2_with fail)
  all_goals go_ret
  all_goals exact ⟨la, ⟨lc, rfl⟩, HI.out.1, HI.out.2, hKf⟩
theorem two_bd : ∀ i : Nat, inI (([2] : List Int)[i]?.getD 0) := by
  intro i
  rcases i with _ | i <;> simp [inI]
theorem orefs (a : Int) (L : List Int) (w : World) (h : Has w0 F0 (heapA hb ws kd ds) w) (hT : RefsT kd ws ds a L) :
    Calls Try.prog 22 #[.pointer (some ⟨hb, 0, none⟩), .int .i64 a] w fun e w' => ∃ la lc, e = .returned (.slice la L.length lc) ∧ IntsAt w' la L ∧ (∀ x, la = some x → w.heap.size ≤ x.block) ∧ Keep [] w w' := by
  have hf := h.fine
  obtain ⟨sb, tb, hr⟩ := h.raw
  cases hT with
  | none hn =>
    refine (orefs_other _ a _ _ _ _ _ w (by omega) (ohead a _ _ _ _ _ w h (.no hn))).mono ?_
    rintro e w' ⟨rfl, hK⟩
    exact ⟨none, 0, rfl, IntsAt.nil _ _, by simp, hK⟩
  | data b m c l f hA =>
    refine (orefs_other _ a _ _ _ _ _ w (by omega) (ohead a _ _ _ _ _ w h (.yes b m 3 c l f hA))).mono ?_
    rintro e w' ⟨rfl, hK⟩
    exact ⟨none, 0, rfl, IntsAt.nil _ _, by simp, hK⟩
  | ref b m c l f hA =>
    refine (orefs_ref _ a _ _ _ _ w (ohead a _ _ _ _ _ w h (.yes b m 4 c l f hA))).mono ?_
    rintro e w' ⟨z, rfl, hR, hz, hK⟩
    exact ⟨_, 1, rfl, hR.ints two_bd, fun x e => by cases e; exact hz, hK⟩
  | refs b m c l f hA =>
    have hbd := hA.2.2.bd
    obtain ⟨q, hq⟩ := Int.eq_ofNat_of_zero_le hbd.2.2.2.2.1
    refine (orefs_all _ a _ l _ q _ w hq (by omega) (ohead a _ _ _ _ _ w h (.yes b m 2 c l f hA))).mono ?_
    rintro e w' ⟨z, rfl, hR, hz, hK⟩
    exact ⟨_, q, by rw [upL_length, hq]; rfl, hR.ints (upL_bd l (by omega)), fun x e => by cases e; exact hz, hK⟩
  | plain b m i c l f L hA hci hi => exact orefs_plain i a c l l f L w hr hci hi hf.few (ohead a _ _ _ _ _ w h (.yes b m 1 c l f hA))
theorem orefs_nil (a : Int) (w : World) :
    Calls Try.prog 22 #[.pointer none, .int .i64 a] w fun e w' => e = .returned (.slice none 0 0) ∧ Keep [] w w' :=
  orefs_other none a _ _ _ _ _ w (by omega) (ohead_nil a w)
end

end Go.Proofs.Ytgpidokklhjfdaa

/-
  Package object: what Objects answers: a list in memory of its own.
-/
namespace Go.Proofs.Ytgpidokklhjfdaa
open Go.RowKit

/-- An object: where it is, its head, its fields. -/
structure OM where
  a : Int
  k : Int
  c : Int
  l : Int
  f : Bool
  L : List Int
/-- One in memory: its fields lie in a row z. -/
structure OV where
  o : OM
  z : Nat
def OV.cells (v : OV) : List Value := [.int .i64 v.o.a, .int .i64 v.o.k, .int .i64 v.o.c, .int .i64 v.o.l, .bool v.o.f, .slice (some ⟨v.z, 0, none⟩) v.o.L.length v.o.L.length]
def flatO (vs : List OV) : List Value := vs.flatMap OV.cells
theorem flatO_app (vs us : List OV) : flatO (vs ++ us) = flatO vs ++ flatO us := by simp [flatO]
theorem flatO_one (v : OV) : flatO [v] = v.cells := by simp [flatO]
theorem flatO_length (vs : List OV) : (flatO vs).length = vs.length * 6 := by
  induction vs with
  | nil => rfl
  | cons c cs ih => simp [flatO, OV.cells] at *; omega
theorem flatO_get (vs : List OV) (i : Nat) (v : OV) (h : vs[i]? = some v) (t : Nat) (ht : t < 6) : (flatO vs)[i * 6 + t]? = v.cells[t]? := by
  induction vs generalizing i with
  | nil => simp at h
  | cons d vs ih =>
    have e : flatO (d :: vs) = d.cells ++ flatO vs := by simp [flatO]
    have hd : d.cells.length = 6 := rfl
    rw [e]
    cases i with
    | zero => simp at h; subst h; rw [List.getElem?_append_left (by omega)]; simp
    | succ i =>
      simp at h
      rw [List.getElem?_append_right (by omega), hd, show (i + 1) * 6 + t - 6 = i * 6 + t by omega]
      exact ih i h

/-- What the words say of the object at a. -/
def objOf (ws : List Int) (a : Int) : OM := ⟨a, wk (ws[a.toNat]?.getD 0), wc (ws[a.toNat]?.getD 0), wl (ws[a.toNat]?.getD 0), wf (ws[a.toNat]?.getD 0), wordsL ws a.toNat (wl (ws[a.toNat]?.getD 0))⟩
def objsK (kd : List PK) (ws : List Int) : List OM := (eachK kd).map (objOf ws)
theorem objsK_length (kd : List PK) (ws : List Int) : (objsK kd ws).length = (eachK kd).length := by simp [objsK]
theorem each_at9 {kd : List PK} {ws : List Int} {ds : List (Int × List Int)} (h : Fine ws kd ds) (j : Nat) (hj : j < (eachK kd).length) : ∃ (b m : Nat) (k c l : Int) (f : Bool), (eachK kd)[j]? = some (b : Int) ∧ At kd ws b b m k c l f ∧ l + 1 ≤ m ∧ objOf ws b = ⟨b, k, c, l, f, wordsL ws b l⟩ := by
  have hm : (eachK kd)[j] ∈ eachTo kd kd.length := List.getElem_mem hj
  obtain ⟨b, n, e, _, _, hf⟩ := h.wf.each_in kd.length _ hm
  obtain ⟨k, c, l, f, h1, h2, _⟩ := h.ob.head b n hf
  obtain ⟨_, _, e1, e2, e3, e4⟩ := h1.parts
  exact ⟨b, n, k, c, l, f, by rw [List.getElem?_eq_getElem hj, e], ⟨rfl, hf, h1⟩, h2, by unfold objOf; rw [Int.toNat_natCast, e1, e2, e3, e4]⟩

theorem oneCells6 (a k c l : Int) (f : Bool) (la : Option Addr) (n lc : Nat) : ∀ u ∈ [Value.int .i64 a, .int .i64 k, .int .i64 c, .int .i64 l, .bool f, .slice la n lc], u.oneCell' = true := by
  intro u hu
  simp at hu
  rcases hu with rfl | rfl | rfl | rfl | rfl | rfl <;> rfl

section
variable {w0 : World} {F0 : List Nat} {hb : Nat} {ws : List Int} {kd : List PK} {ds : List (Int × List Int)}
end

end Go.Proofs.Ytgpidokklhjfdaa
