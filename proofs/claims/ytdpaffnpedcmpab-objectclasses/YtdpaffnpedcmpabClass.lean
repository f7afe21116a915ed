/-
  Package class: what its calls answer and leave, over a table in memory.
-/
import Derived.Test.YtdpaffnpedcmpabRows
import Derived.Test.YtdpaffnpedcmpabOwn
import Derived.Test.YtdpaffnpedcmpabLists
import Derived.Test.YtdpaffnpedcmpabRet
import Derived.Deep.AppendLies
import Derived.Deep.RegionHeld3
import Derived.Deep.RegionLaw
namespace Go.Proofs.Ytdpaffnpedcmpab
open Go.RowKit

theorem Try.infoIntC : (Try.prog.info? 3).map (fun i => (i.zero, i.size, i.bytes)) = some (some (.int .i64 0), 1, 8) := by kernel_rfl
theorem Try.infoClass : (Try.prog.info? 49).map (fun i => (i.zero, i.size, i.bytes)) = some (some (.agg #[.int .i64 0, .slice none 0 0]), 2, 32) := by kernel_rfl

/-- Address i of a class of f fields is one, and lies behind the one ahead. -/
def okAt (f : Int) (L : List Int) (i : Nat) : Prop := 0 ≤ L[i]?.getD 0 ∧ L[i]?.getD 0 < f ∧ (0 < i → L[i - 1]?.getD 0 < L[i]?.getD 0)
instance (f : Int) (L : List Int) (i : Nat) : Decidable (okAt f L i) := by unfold okAt; infer_instance
/-- A class that may be. -/
def mayP (f : Int) (L : List Int) : Prop := 0 ≤ f ∧ f ≤ 1023 ∧ ∀ i, i < L.length → okAt f L i
instance (f : Int) (L : List Int) : Decidable (mayP f L) := by unfold mayP; infer_instance
def mayB (f : Int) (L : List Int) : Bool := decide (mayP f L)
theorem mayB_yes {f : Int} {L : List Int} (h1 : 0 ≤ f) (h2 : f ≤ 1023) (h : ∀ i, i < L.length → okAt f L i) : mayB f L = true := decide_eq_true ⟨h1, h2, h⟩
theorem mayB_low {f : Int} {L : List Int} (h1 : ¬ (0 ≤ f ∧ f ≤ 1023)) : mayB f L = false := decide_eq_false (fun h => h1 ⟨h.1, h.2.1⟩)
theorem mayB_no {f : Int} {L : List Int} (i : Nat) (hi : i < L.length) (h : ¬ okAt f L i) : mayB f L = false := decide_eq_false (fun k => h (k.2.2 i hi))
theorem mayB_iff {f : Int} {L : List Int} : mayB f L = true ↔ mayP f L := by unfold mayB; simp
/-- The address ahead of number j. -/
def lastI (L : List Int) (j : Nat) : Int := if j = 0 then -1 else L[j - 1]?.getD 0
theorem lastI_succ (L : List Int) (j : Nat) : lastI L (j + 1) = L[j]?.getD 0 := by simp [lastI]
theorem okAt_iff {f : Int} {L : List Int} {j : Nat} (hj : j < L.length) (h : ∀ i, i < j → okAt f L i) : okAt f L j ↔ lastI L j < L[j]?.getD 0 ∧ L[j]?.getD 0 < f := by
  unfold okAt lastI
  rcases Nat.eq_zero_or_pos j with rfl | hp
  · simp; omega
  · have := (h (j - 1) (by omega)).1
    rw [if_neg (by omega)]
    constructor
    · rintro ⟨a, b, c⟩; exact ⟨c hp, b⟩
    · rintro ⟨a, b⟩; exact ⟨by omega, b, fun _ => a⟩
theorem lastI_bd {w : World} {ao : Option Addr} {L : List Int} (h : IntsAt w ao L) (j : Nat) : -9223372036854775808 ≤ lastI L j ∧ lastI L j ≤ 9223372036854775807 := by
  unfold lastI
  split
  · omega
  · exact ⟨h.low _, h.high _⟩

set_option maxHeartbeats 800000 in
theorem may_any (f : Int) (ao : Option Addr) (n c : Nat) (L : List Int) (w : World) (hA : IntsAt w ao L) (hn : L.length = n) (hb : n ≤ 9223372036854775807) :
    Calls Try.prog 54 #[.agg #[.int .i64 f, .slice ao n c]] w fun e w' => e = .returned (.bool (mayB f L)) ∧ Keep [] w w' := by
  have hK1 := Keep.alloc [] w (.cells #[.int .i64 f, .slice ao n c] 49)
  by_cases hf : 0 ≤ f ∧ f ≤ 1023
  · obtain ⟨hf1, hf2⟩ := hf
    have hd1 : decide (f < 0) = false := by rw [decide_eq_false_iff_not]; omega
    have HI := (show Hid (0 < n → ∃ b off, ao = some ⟨b, off, none⟩ ∧ b < w.heap.size ∧ ∀ i, i < n → w.cell? ⟨b, off + i, none⟩ = some (.int .i64 (L[i]?.getD 0))) from fun h => by rw [← hn] at h ⊢; exact hA.cells h)
    have HA := (show Hid (IntsAt w ao L) from hA)
    have HN := (show Hid (L.length = n) from hn)
    clear hA hn
    have hx1 := heap_alloc_new w (.cells #[.int .i64 f, .slice ao n c] 49)
    go_enter Try.func54, Try.ntmps54
    go_wp2
    generalize w.alloc (.cells #[.int .i64 f, .slice ao n c] 49) = w1 at *
    obtain ⟨bx, hbx⟩ : ∃ bx, w.heap.size = bx := ⟨_, rfl⟩
    rw [hbx] at hx1 ⊢
    have c0 : w1.cell? ⟨bx, 0, none⟩ = some (.int .i64 f) := by simp [World.cell?, hx1]
    clear hx1 hbx
    go_loopw [3, 17] (fun l i wr => ∃ j : Nat, l = .int .i64 (lastI L j) ∧ i = .int .i64 j ∧ j ≤ n ∧ (∀ i, i < j → okAt f L i) ∧ wr = w1) (fun _ i _ => n - (intOf i).toNat)
    case atStart => exact ⟨0, rfl, rfl, by omega, fun i h => by omega, rfl⟩
    case round =>
      obtain ⟨j, rfl, rfl, hj, hok, rfl⟩ := hrel
      have HO := (show Hid (∀ i, i < j → okAt f L i) from hok)
      clear hok
      by_cases hlt : j < n
      · obtain ⟨b, off, rfl, hbs, hcell⟩ := HI.out (by omega)
        have hc := (hK1.cell hbs (by simp) (off + j)).trans (hcell j hlt)
        have HQ := (show Hid (okAt f L j ↔ lastI L j < L[j]?.getD 0 ∧ L[j]?.getD 0 < f) from okAt_iff (by rw [HN.out]; exact hlt) HO.out)
        have HS := (show Hid (lastI L (j + 1) = L[j]?.getD 0) from lastI_succ L j)
        have hbl := lastI_bd HA.out j
        have hbr := And.intro (HA.out.low j) (HA.out.high j)
        generalize L[j]?.getD 0 = x at hc HQ HS hbr
        generalize lastI L j = l at *
        clear hcell
        by_cases h1 : x ≤ l
        · have HM := (show Hid (mayB f L = false) from mayB_no j (by rw [HN.out]; exact hlt) (fun k => by have := (HQ.out.1 k).1; omega))
          go_wp2_with fail
          go_ret
          rw [HM.out]; exact ⟨rfl, hK1⟩
        · have hd2 : decide (x ≤ l) = false := by rw [decide_eq_false_iff_not]; omega
          by_cases h2 : f ≤ x
          · have HM := (show Hid (mayB f L = false) from mayB_no j (by rw [HN.out]; exact hlt) (fun k => by have := (HQ.out.1 k).2; omega))
            go_wp2_with fail
            go_ret
            rw [HM.out]; exact ⟨rfl, hK1⟩
          · have HO2 := (show Hid (∀ i, i < j + 1 → okAt f L i) from fun i hi => by
              rcases Nat.lt_or_ge i j with h | h
              · exact HO.out i h
              · obtain rfl : i = j := by omega
                exact HQ.out.2 ⟨by omega, by omega⟩)
            go_wp2_with fail
            go_roundw
            case rel => exact ⟨j + 1, by rw [HS.out], by go_num, by omega, HO2.out, trivial⟩
            case measure => simp [intOf]; omega
      · obtain rfl : j = n := by omega
        have HM := (show Hid (mayB f L = true) from mayB_yes hf1 hf2 (by rw [HN.out]; exact HO.out))
        go_wp2
        go_ret
        rw [HM.out]; exact ⟨rfl, hK1⟩
  · rw [mayB_low hf]
    by_cases h0 : f < 0
    · go_enter Try.func54, Try.ntmps54
      go_wp2
      go_ret
      exact ⟨rfl, hK1⟩
    · have hd1 : decide (f < 0) = false := by rw [decide_eq_false_iff_not]; omega
      have h2 : 1023 < f := by omega
      clear hf
      go_enter Try.func54, Try.ntmps54
      go_wp2
      go_ret
      exact ⟨rfl, hK1⟩

/-- A slice of integers that a call hands back: what it holds, in memory that is new. -/
def GivesI (w w' : World) (v : Value) (L : List Int) : Prop := ∃ la lc, v = .slice la L.length lc ∧ IntsAt w' la L ∧ (la = none → lc = 0) ∧ ∀ a, la = some a → w.heap.size ≤ a.block ∧ a.block < w'.heap.size ∧ ∃ arr t, w'.heap[a.block]? = some (.cells arr t (0, 0))

/-- A row of one's own, as a slice. -/
theorem own_form {w : World} {base : Nat} {e : TypeId} {v : Value} {n : Nat} {L : List Int} (hown : w.ownsRow base e 1 v n (ints L)) (hbd : ∀ i : Nat, -9223372036854775808 ≤ L[i]?.getD 0 ∧ L[i]?.getD 0 ≤ 9223372036854775807) :
    ∃ la lc, v = .slice la n lc ∧ L.length = n ∧ IntsAt w la L ∧ (∀ a, la = some a → base ≤ a.block ∧ a.block < w.heap.size) ∧ (la = none → lc = 0) := by
  rcases own_ints hown hbd with ⟨rfl, rfl, rfl⟩ | ⟨gl, cap, rfl, h, hgl, hlt, hIL⟩
  · exact ⟨none, 0, rfl, rfl, IntsAt.nil _ _, fun a h => (by cases h), fun _ => rfl⟩
  · subst h; exact ⟨some ⟨gl, 0, none⟩, cap, rfl, rfl, hIL, fun a h => (by cases h; exact ⟨hgl, hlt⟩), fun h => (by cases h)⟩

/-- append onto nil, at a step of a region that draws: whatever is appended. -/
theorem step_append_nil {P : Program} {w : World} {ops : Array Oper} {o : Oper} {a : Act} {K : Act → World → Prop} {Q : Exit → Act → World → Prop} {E : Prop} (hgd : o.guard = none) (s x : Operand) (t : TypeId)
    (ho : o.op = .call { callee := .builtin .append, args := #[s, x], argTypes := #[t, t] })
    (e : TypeId) (i : TypeInfo) (ht : P.underlying t = some (.slice e)) (hi : P.info? e = some i ∧ i.zero = some (.int .i64 0) ∧ i.size = 1 ∧ i.bytes = 8)
    (L : List Int) (hs : a.eval s = .slice none 0 0) (xa : Option Addr) (m c : Nat) (hm : L.length = m)
    (hx : a.eval x = .slice xa m c) (hM : IntsAt w xa L) (hc : xa = none → c = 0) (hl : m ≤ 1000000)
    (h : ∀ la lc w', GivesI w w' (.slice la m lc) L → Keep [] w w' → K (a.put o.dst (.slice la m lc)) w') :
    if Region.wanted o (yielded ops a.tmps) = true then Oper.wp P o a w K Q else E := by
  have hw : Region.wanted o (yielded ops a.tmps) = true := by simp [Region.wanted, hgd]
  rw [if_pos hw]
  obtain ⟨h1, h2, h3, h4⟩ := hi
  subst hm
  cases xa with
  | none =>
    have h0 : L = [] := by
      rcases Nat.eq_zero_or_pos L.length with h0 | h0
      · exact List.length_eq_zero_iff.1 h0
      · obtain ⟨_, _, e, _⟩ := hM.cells h0; cases e
    subst h0
    obtain rfl := hc rfl
    have hrun := run_append_owned_none (P := P) (w := w) w.heap.size t o.type e i 1 ht h1 (.slice none 0 0) 0 [] (World.ownsRow_nil _ _ _ _)
    unfold Oper.wp
    simp at hx
    simp [execOp, ho, resolve, invoke, builtin, hs, hx, hrun, Result.andThen]
    exact h _ _ _ ⟨none, 0, rfl, IntsAt.nil _ _, fun _ => rfl, fun a e => by cases e⟩ (Keep.refl _ _)
  | some ad =>
    refine wp_append_own w s x t ho w.heap.size e i (.int .i64 0) 1 8 ht h1 h2 h3 h4 rfl (by decide) (.slice none 0 0) 0 [] hs (World.ownsRow_nil _ _ _ _) ad L.length c (ints L) hx (by rw [ints_length]; omega) ?_ (ints_one _) (by unfold maxLen; omega) (by omega) (Nat.le_refl _) ?_
    · intro j u hu
      have hj : j < L.length := by
        rcases Nat.lt_or_ge j L.length with hj | hj
        · exact hj
        · rw [List.getElem?_eq_none (by rw [ints_length]; exact hj)] at hu; cases hu
      obtain ⟨b, off, e1, _, hcell⟩ := hM.cells (by omega)
      cases e1
      rw [ints_get L j hj] at hu
      rw [Go.WideShapes.add_plain, hcell j hj]; exact hu
    · intro v' w' hown' hg _
      rw [List.nil_append] at hown'
      have hk := (Keep.refl [] w).grown hg (fun k e => by simp [Value.ownBlock] at e)
      have hfz : ∀ g, v'.ownBlock = some g → ∃ arr t, w'.heap[g]? = some (.cells arr t (0, 0)) := by
        intro g e
        rcases hown'.2 with ⟨e1, _⟩ | ⟨g', cap, cur, e1, _, e3, _⟩
        · subst e1; simp [Value.ownBlock] at e
        · subst e1; simp [Value.ownBlock] at e; subst e; exact ⟨_, _, e3⟩
      rcases own_ints hown' (fun i => ⟨hM.low i, hM.high i⟩) with ⟨e1, e2, _⟩ | ⟨g, cap, e1, _, h5, h6, h7⟩
      · subst e1 e2; exact h none 0 w' ⟨none, 0, rfl, IntsAt.nil _ _, fun _ => rfl, fun a e => by cases e⟩ hk
      · subst e1; exact h (some ⟨g, 0, none⟩) cap w' ⟨some ⟨g, 0, none⟩, cap, rfl, h7, (fun e => by cases e), (fun a e => by cases e; exact ⟨h5, h6, hfz g rfl⟩)⟩ hk

theorem GivesI.later {S : List Nat} {w0 w1 w2 w3 : World} {v : Value} {L : List Int} (h : GivesI w1 w2 v L) (K : Keep S w2 w3) (hS : ∀ k, k ∈ S → k < w1.heap.size) (h0 : w0.heap.size ≤ w1.heap.size) : GivesI w0 w3 v L := by
  obtain ⟨la, lc, rfl, h1, h2, h3⟩ := h
  exact ⟨la, lc, rfl, h1.keep K (fun _ a e k => by have := hS _ k; have := (h3 a e).1; omega), h2, fun a e => ⟨by have := (h3 a e).1; omega, Nat.lt_of_lt_of_le (h3 a e).2.1 K.size, by
    obtain ⟨arr, t, hb⟩ := (h3 a e).2.2
    exact ⟨arr, t, K.blk hb (fun k => by have := hS _ k; have := (h3 a e).1; omega)⟩⟩⟩

set_option maxHeartbeats 800000 in
theorem copied_any (f : Int) (ao : Option Addr) (n c : Nat) (L : List Int) (w : World) (hA : IntsAt w ao L) (hc : ao = none → c = 0) (hn : L.length = n) (hb : n ≤ 1000000) :
    Calls Try.prog 37 #[.agg #[.int .i64 f, .slice ao n c]] w fun e w' => ∃ v, e = .returned (.agg #[.int .i64 f, v]) ∧ GivesI w w' v L ∧ Keep [] w w' := by
  obtain ⟨i0, hi, hz0, hz1, hz2⟩ := info_parts Try.infoIntC
  have hI : Hid (Try.prog.info? 3 = some i0 ∧ i0.zero = some (.int .i64 0) ∧ i0.size = 1 ∧ i0.bytes = 8) := ⟨hi, hz0, hz1, hz2⟩
  clear hi hz0 hz1 hz2
  have hK1 := (Keep.alloc [] w (.cells #[.int .i64 f, .slice ao n c] 49)).trans (Keep.alloc [] (w.alloc (.cells #[.int .i64 f, .slice ao n c] 49)) (.cells #[.int .i64 0, .slice none 0 0] 49))
  have hx1 := (Keep.alloc [] (w.alloc (.cells #[.int .i64 f, .slice ao n c] 49)) (.cells #[.int .i64 0, .slice none 0 0] 49)).blk (heap_alloc_new w (.cells #[.int .i64 f, .slice ao n c] 49)) (by simp)
  have hx2 := heap_alloc_new (w.alloc (.cells #[.int .i64 f, .slice ao n c] 49)) (.cells #[.int .i64 0, .slice none 0 0] 49)
  have hs2 : (w.alloc (.cells #[.int .i64 f, .slice ao n c] 49)).heap.size = w.heap.size + 1 := by simp
  rw [hs2] at hx2
  have HA := (show Hid (IntsAt w ao L) from hA)
  have HN := (show Hid (L.length = n) from hn)
  have HC := (show Hid (ao = none → c = 0) from hc)
  clear hA hn hs2 hc
  go_enter Try.func37, Try.ntmps37
  go_wp2
  generalize (w.alloc (.cells #[.int .i64 f, .slice ao n c] 49)).alloc (.cells #[.int .i64 0, .slice none 0 0] 49) = w2 at *
  obtain ⟨bx, hbx⟩ : ∃ bx, w.heap.size = bx := ⟨_, rfl⟩
  rw [hbx] at hx1 hx2 ⊢
  obtain ⟨bw, hbw⟩ : ∃ bw, bx + 1 = bw := ⟨_, rfl⟩
  rw [hbw] at hx2 ⊢
  have hne : bx ≠ bw := by omega
  have c0 : w2.cell? ⟨bx, 0, none⟩ = some (.int .i64 f) := by simp [World.cell?, hx1]
  have c1 : w2.cell? ⟨bx, 1, none⟩ = some (.slice ao n c) := by simp [World.cell?, hx1]
  have hlx := lt_of_block hx1
  have hA2 : ∀ k, IntsAt (w2.drewN k) ao L := fun k => (HA.out.keep hK1 (by simp [Off])).keep (Keep.drewN [] w2 k) (by simp [Off])
  have hA3 : IntsAt w2.drew ao L := (HA.out.keep hK1 (by simp [Off])).keep (Keep.drew [] w2) (by simp [Off])
  go_region_held3 (fun wz => wz.cell? ⟨bx, 0, none⟩ = some (.int .i64 f) ∧ wz.cell? ⟨bx, 1, none⟩ = some (.slice ao n c)) (go_keep) (first | (refine step_append_nil rfl (.const (.slice none 0 0)) (.tmp 6) 46 rfl 3 i0 Try.underlying46 hI.out L rfl ao n c HN.out rfl hA3 HC.out hb ?_; intro la lc w3 HG hK3; have d1 := (hK3.cell hlx (by simp) 0).trans c0; have d2 := (hK3.cell hlx (by simp) 1).trans c1; have hx3 := hK3.blk hx2 (by simp); have e0 : w3.cell? ⟨bw, 0, none⟩ = some (.int .i64 0) := (by simp [World.cell?, hx3]); have e1 : w3.cell? ⟨bw, 1, none⟩ = some (.slice none 0 0) := (by simp [World.cell?, hx3]); have f0 : w3.frozen? ⟨bw, 0, none⟩ = false := (by simp [World.frozen?, hx3]); have f1 : w3.frozen? ⟨bw, 1, none⟩ = false := (by simp [World.frozen?, hx3]); have hk4 : Keep [bw] w3 ((w3.setCell ⟨bw, 0, none⟩ (.int .i64 f)).setCell ⟨bw, 1, none⟩ (.slice la n lc)) := (Keep.setCell _ _ (by simp)).trans (Keep.setCell _ _ (by simp)); have g0 := (hk4.cell (Nat.lt_of_lt_of_le hlx hK3.size) (by simpa using hne) 0).trans d1; have g1 := (hk4.cell (Nat.lt_of_lt_of_le hlx hK3.size) (by simpa using hne) 1).trans d2))
  have z1 := heap_setCell_same w3 bw 0 _ _ (.int .i64 f) hx3
  have z2 := heap_setCell_same _ bw 1 _ _ (.slice la n lc) z1
  have hlw := lt_of_block hx2
  have hsz := hK1.size
  go_wp2
  refine bodyPost_ret (results_cell_row rfl _ _ bw 49 #[.int .i64 f, .slice la n lc] (0, 0) _ rfl (by simpa using z2) Try.underlying49 rfl (by kernel_rfl)) rfl ?_
  refine ⟨_, rfl, HG.later hk4 (by simpa using hlw) (by simpa using hsz), ?_⟩
  exact (((hK1.mono (T := [bw]) (by simp)).trans ((Keep.drew [bw] w2).trans (hK3.mono (by simp)))).trans hk4).drop (by simp; omega)

/-- A class in memory. -/
structure CV where
  f : Int
  ao : Option Addr
  cp : Nat
  L : List Int
def CV.cells (c : CV) : List Value := [.int .i64 c.f, .slice c.ao c.L.length c.cp]
def flat (cs : List CV) : List Value := cs.flatMap CV.cells
theorem flat_length (cs : List CV) : (flat cs).length = cs.length * 2 := by
  induction cs with
  | nil => rfl
  | cons c cs ih => simp [flat, CV.cells] at *; omega
theorem flat_app (cs ds : List CV) : flat (cs ++ ds) = flat cs ++ flat ds := by simp [flat]
theorem flat_one (c : CV) : flat [c] = c.cells := by simp [flat]
theorem flat_get0 (cs : List CV) (i : Nat) (c : CV) (h : cs[i]? = some c) : (flat cs)[i * 2]? = some (.int .i64 c.f) ∧ (flat cs)[i * 2 + 1]? = some (.slice c.ao c.L.length c.cp) := by
  induction cs generalizing i with
  | nil => simp at h
  | cons d cs ih =>
    cases i with
    | zero => simp at h; subst h; simp [flat, CV.cells]
    | succ i =>
      simp at h
      have := ih i h
      have e : flat (d :: cs) = .int .i64 d.f :: .slice d.ao d.L.length d.cp :: flat cs := by simp [flat, CV.cells]
      rw [e, show (i + 1) * 2 = i * 2 + 1 + 1 by omega, show i * 2 + 1 + 1 + 1 = (i * 2 + 1) + 1 + 1 by omega]
      simpa using this
/-- What a class is, wherever it lies. -/
def CV.d (c : CV) : Int × List Int := (c.f, c.L)

/-- Block tb is a table whose classes lie at va; all its blocks are of F. -/
structure TabAt (w : World) (tb : Nat) (va : Option Addr) (vc : Nat) (F : List Nat) (cs : List CV) : Prop where
  head : w.heap[tb]? = some (.cells #[.slice va cs.length vc] 85 (0, 0))
  own : w.ownsRow 0 49 2 (.slice va cs.length vc) cs.length (flat cs)
  vF : ∀ a, va = some a → a.block ∈ F ∧ a.block ≠ tb
  tF : tb ∈ F
  each : ∀ (i : Nat) (c : CV), cs[i]? = some c → IntsAt w c.ao c.L ∧ (c.ao = none → c.cp = 0) ∧ c.L.length ≤ 1000000 ∧ (∀ a, c.ao = some a → a.block ∈ F ∧ a.block ≠ tb ∧ ∀ b, va = some b → b.block ≠ a.block)
  lt : ∀ k, k ∈ F → k < w.heap.size
def IsTab (w : World) (tb : Nat) (F : List Nat) (ds : List (Int × List Int)) : Prop := ∃ va vc cs, TabAt w tb va vc F cs ∧ ds = cs.map CV.d

theorem TabAt.keep {S F : List Nat} {w w' : World} {tb vc : Nat} {va : Option Addr} {cs : List CV} (h : TabAt w tb va vc F cs) (K : Keep S w w') (hS : ∀ k, k ∈ F → k ∉ S) : TabAt w' tb va vc F cs :=
  { h with
    head := K.blk h.head (hS _ h.tF)
    own := by
      refine ⟨h.own.1, ?_⟩
      rcases h.own.2 with h1 | ⟨g, cap, cur, h1, h2, h3, h4⟩
      · exact .inl h1
      · refine .inr ⟨g, cap, cur, h1, h2, K.blk h3 (hS _ ?_), h4⟩
        cases h1; exact (h.vF _ rfl).1
    each := fun i c hc => by
      obtain ⟨h1, h2, h3, h4⟩ := h.each i c hc
      exact ⟨h1.keep K (fun _ a e => hS _ (h4 a e).1), h2, h3, h4⟩
    lt := fun k hk => Nat.lt_of_lt_of_le (h.lt k hk) K.size }
theorem IsTab.keep {S F : List Nat} {w w' : World} {tb : Nat} {ds : List (Int × List Int)} (h : IsTab w tb F ds) (K : Keep S w w') (hS : ∀ k, k ∈ F → k ∉ S) : IsTab w' tb F ds := by
  obtain ⟨va, vc, cs, h, e⟩ := h; exact ⟨va, vc, cs, h.keep K hS, e⟩
theorem TabAt.cell {F : List Nat} {w : World} {tb vc : Nat} {va : Option Addr} {cs : List CV} (h : TabAt w tb va vc F cs) : w.cell? ⟨tb, 0, none⟩ = some (.slice va cs.length vc) := by simp [World.cell?, h.head]
theorem TabAt.free {F : List Nat} {w : World} {tb vc : Nat} {va : Option Addr} {cs : List CV} (h : TabAt w tb va vc F cs) : w.frozen? ⟨tb, 0, none⟩ = false := by simp [World.frozen?, h.head]

/-- One class more. -/
theorem TabAt.added {F : List Nat} {w w4 : World} {tb vc g cap B lc : Nat} {va la : Option Addr} {cs : List CV} {f : Int} {L : List Int} {o : Obj} (h : TabAt w tb va vc F cs) (hB : ∀ k, k ∈ F → k < B)
    (hI : IntsAt w la L) (hlc : la = none → lc = 0) (hL : L.length ≤ 1000000) (hla : ∀ a, la = some a → B ≤ a.block ∧ a.block < w.heap.size) (hBw : B ≤ w.heap.size)
    (hown : w4.ownsRow 0 49 2 (.slice (some ⟨g, 0, none⟩) (cs.length + 1) cap) (cs.length + 1) (flat cs ++ [.int .i64 f, .slice la L.length lc]))
    (hg : (w.alloc o).grownBy w4 (Value.slice va cs.length vc).ownBlock) (hat : (Value.slice va cs.length vc).ownBlock = some g ∨ g = w.heap.size + 1) (hlt : g < w4.heap.size) :
    TabAt (w4.setCell ⟨tb, 0, none⟩ (.slice (some ⟨g, 0, none⟩) (cs.length + 1) cap)) tb (some ⟨g, 0, none⟩) cap (g :: (la.toList.map (·.block) ++ F)) (cs ++ [⟨f, la, lc, L⟩]) ∧
      Keep F w (w4.setCell ⟨tb, 0, none⟩ (.slice (some ⟨g, 0, none⟩) (cs.length + 1) cap)) := by
  have htb := hB _ h.tF
  have own : ∀ k, (Value.slice va cs.length vc).ownBlock = some k → k ∈ F ∧ k ≠ tb ∧ ∃ a, va = some a ∧ a.block = k := by
    intro k hk
    cases va with
    | none => simp [Value.ownBlock] at hk
    | some a => simp [Value.ownBlock] at hk; subst hk; exact ⟨(h.vF a rfl).1, (h.vF a rfl).2, a, rfl, rfl⟩
  have gtb : g ≠ tb := by
    rcases hat with e | e
    · exact (own g e).2.1
    · omega
  have K1 : Keep F w w4 := ⟨hg.os, hg.tape, hg.output, Nat.le_trans (by simp) hg.size, fun k hk hS =>
    (hg.block k (by simp; omega) (fun e => hS (own k e.symm).1)).trans (Below.heap_alloc _ _ _ hk)⟩
  have K0 : Keep [] w (w.alloc o) := Keep.alloc [] w o
  have K2 : Keep [tb] w4 (w4.setCell ⟨tb, 0, none⟩ (.slice (some ⟨g, 0, none⟩) (cs.length + 1) cap)) := Keep.setCell _ _ (by simp)
  have ints : ∀ (ao : Option Addr) (M : List Int), IntsAt w ao M → (∀ a, ao = some a → a.block ≠ tb ∧ (Value.slice va cs.length vc).ownBlock ≠ some a.block) → IntsAt (w4.setCell ⟨tb, 0, none⟩ (.slice (some ⟨g, 0, none⟩) (cs.length + 1) cap)) ao M := by
    intro ao M hM ha
    refine ⟨fun h0 => ?_, hM.low, hM.high⟩
    obtain ⟨b, off, rfl, hb, hc⟩ := hM.cells h0
    obtain ⟨h1, h2⟩ := ha _ rfl
    have e : (w4.setCell ⟨tb, 0, none⟩ (.slice (some ⟨g, 0, none⟩) (cs.length + 1) cap)).heap[b]? = w.heap[b]? :=
      (K2.block b (Nat.lt_of_lt_of_le hb K1.size) (by simpa using h1)).trans ((hg.block b (by simp; omega) (fun e => h2 e.symm)).trans (Below.heap_alloc _ _ _ hb))
    exact ⟨b, off, rfl, Nat.lt_of_lt_of_le (Nat.lt_of_lt_of_le hb K1.size) K2.size, fun i hi => (World.cell?_of_block (w := w) e).trans (hc i hi)⟩
  have far : ∀ k, B ≤ k → (Value.slice va cs.length vc).ownBlock ≠ some k := fun k hk e => by have := hB _ (own k e).1; omega
  have hl : (cs ++ [(⟨f, la, lc, L⟩ : CV)]).length = cs.length + 1 := by simp
  have htbw : w4.heap[tb]? = some (.cells #[.slice va cs.length vc] 85 (0, 0)) := by
    rw [← h.head]
    exact (hg.block tb (by simp; omega) (fun e => (own tb e.symm).2.1 rfl)).trans (Below.heap_alloc _ _ _ (by omega))
  refine ⟨⟨?_, ?_, ?_, ?_, ?_, ?_⟩, K1.trans (K2.mono (by simpa using h.tF))⟩
  · rw [hl]
    have := heap_setCell_same w4 tb 0 _ _ (.slice (some ⟨g, 0, none⟩) (cs.length + 1) cap) htbw
    simpa using this
  · rw [hl, flat_app, flat_one]
    refine ⟨hown.1, ?_⟩
    rcases hown.2 with ⟨h1, _⟩ | ⟨g', cap', cur, h1, h2, h3, h4⟩
    · cases h1
    · cases h1
      exact .inr ⟨g, cap, cur, rfl, h2, K2.blk h3 (by simpa using gtb), h4⟩
  · intro a e; cases e; exact ⟨by simp, gtb⟩
  · simp [h.tF]
  · intro i c hc
    rcases Nat.lt_trichotomy i cs.length with hi | hi | hi
    · rw [List.getElem?_append_left hi] at hc
      obtain ⟨h1, h2, h3, h4⟩ := h.each i c hc
      have h5 : ∀ a, c.ao = some a → (Value.slice va cs.length vc).ownBlock ≠ some a.block := fun a e e' => by
        obtain ⟨b, e1, e2⟩ := (own _ e').2.2
        exact (h4 a e).2.2 b e1 e2
      refine ⟨ints _ _ h1 (fun a e => ⟨(h4 a e).2.1, h5 a e⟩), h2, h3, fun a e => ⟨by simp [(h4 a e).1], (h4 a e).2.1, fun b eb => ?_⟩⟩
      cases eb
      show g ≠ a.block
      rcases hat with e' | e'
      · intro eg; exact h5 a e (by rw [e', eg])
      · have := hB _ (h4 a e).1; omega
    · subst hi
      have : c = ⟨f, la, lc, L⟩ := by simpa using hc.symm
      subst this
      refine ⟨ints _ _ hI (fun a e => ⟨by have := (hla a e).1; omega, far _ (hla a e).1⟩), hlc, hL, fun a e => ⟨?_, by have := (hla a e).1; omega, fun b eb => ?_⟩⟩
      · have e' : la = some a := e
        simp [e']
      · cases eb
        show g ≠ a.block
        have := hla a e
        rcases hat with e' | e'
        · intro eg; exact far a.block this.1 (by rw [e', eg])
        · omega
    · rw [List.getElem?_eq_none (by simp; omega)] at hc; cases hc
  · intro k hk
    have hs := K2.size
    have hs1 := K1.size
    simp at hk
    rcases hk with rfl | ⟨a, e, rfl⟩ | hk
    · omega
    · have := (hla a e).2; omega
    · have := hB k hk; omega
theorem IsTab.lt {F : List Nat} {w : World} {tb : Nat} {ds : List (Int × List Int)} (h : IsTab w tb F ds) : ∀ k, k ∈ F → k < w.heap.size := by
  obtain ⟨va, vc, cs, h, e⟩ := h; exact h.lt
theorem IsTab.mem {F : List Nat} {w : World} {tb : Nat} {ds : List (Int × List Int)} (h : IsTab w tb F ds) : tb ∈ F := by
  obtain ⟨va, vc, cs, h, e⟩ := h; exact h.tF

/-! ### The calls -/
set_option maxHeartbeats 400000 in
theorem tnew (w : World) : Calls Try.prog 21 #[] w fun e w' => ∃ tb, e = .returned (.pointer (some ⟨tb, 0, none⟩)) ∧ IsTab w' tb [tb] [] ∧ Keep [] w w' ∧ w.heap.size ≤ tb := by
  go_enter Try.func21, Try.ntmps21
  go_wp2
  go_ret
  refine ⟨w.heap.size, rfl, ⟨none, 0, [], ⟨heap_alloc_new w _, World.ownsRow_nil _ _ _ _, (fun a e => by cases e), (by simp), (fun i c h => by simp at h), ?_⟩, rfl⟩, Keep.alloc [] _ _, Nat.le_refl _⟩
  intro k hk
  simp at hk
  simp [hk]
set_option maxHeartbeats 400000 in
theorem tclasses (tb : Nat) (F : List Nat) (ds : List (Int × List Int)) (w : World) (h : IsTab w tb F ds) :
    Calls Try.prog 19 #[.pointer (some ⟨tb, 0, none⟩)] w fun e w' => e = .returned (.int .i64 ds.length) ∧ w = w' := by
  obtain ⟨va, vc, cs, h, rfl⟩ := h
  rw [List.length_map]
  have hc := h.cell
  clear h
  go_enter Try.func19, Try.ntmps19
  go_wp2
  go_ret
  exact ⟨rfl, rfl⟩
set_option maxHeartbeats 400000 in
theorem tclasses_nil (w : World) :
    Calls Try.prog 19 #[.pointer none] w fun e w' => e = .returned (.int .i64 0) ∧ w = w' := by
  go_enter Try.func19, Try.ntmps19
  go_wp2
  go_ret
  exact ⟨rfl, rfl⟩

end Go.Proofs.Ytdpaffnpedcmpab
