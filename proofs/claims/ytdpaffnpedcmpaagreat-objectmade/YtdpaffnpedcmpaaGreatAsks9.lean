/-
  ObjectMade: what is asked, out of numbers: a list in memory of its own.
-/
import Derived.Test.YtdpaffnpedcmpaaGreatPart7
import Derived.Test.YtdpaffnpedcmpaaGreatOpens
import Derived.Test.YtdpaffnpedcmpaaGreatWide
import Derived.Deep.AppendLies
import Derived.Deep.CutRange
import Derived.Deep.CutBlock
import Derived.BigRegion
namespace Go.Proofs.YtdpaffnpedcmpaaGreat
open Go.RowKit

theorem Tryz.infoAsk9 : (Tryz.prog.info? 29).map (fun i => (i.zero, i.size, i.bytes)) = some (some (.agg #[.int .i64 0, .int .i64 0, .int .i64 0, .int .i64 0, .bool false, .int .i64 0, .slice none 0 0, .int .i64 0, .int .i64 0, .int .i64 0]), 10, 96) := by kernel_rfl

theorem rem_nat (a m : Nat) (hm : 0 < m) : ∃ q : Nat, (a : Int).tmod (m : Int) = q ∧ q < m := by
  refine ⟨a % m, ?_, Nat.mod_lt _ hm⟩
  rw [Int.tmod_eq_emod_of_nonneg (by omega)]
  rfl
theorem ten_head {w : World} {b : Nat} {t : TypeId} {a0 a1 a2 a3 a4 a5 a6 a7 a8 a9 : Value} (h : w.heap[b]? = some (.cells #[a0, a1, a2, a3, a4, a5, a6, a7, a8, a9] t (0, 0))) :
    (w.cell? ⟨b, 1, none⟩ = some a1 ∧ w.frozen? ⟨b, 1, none⟩ = false) ∧ (w.cell? ⟨b, 2, none⟩ = some a2 ∧ w.frozen? ⟨b, 2, none⟩ = false) ∧ (w.cell? ⟨b, 3, none⟩ = some a3 ∧ w.frozen? ⟨b, 3, none⟩ = false) ∧ (w.cell? ⟨b, 4, none⟩ = some a4 ∧ w.frozen? ⟨b, 4, none⟩ = false) := by
  refine ⟨⟨?_, ?_⟩, ⟨?_, ?_⟩, ⟨?_, ?_⟩, ⟨?_, ?_⟩⟩ <;> simp [World.cell?, World.frozen?, h]
theorem ten_cls {w : World} {b : Nat} {t : TypeId} {a0 a1 a2 a3 a4 a5 a6 a7 a8 a9 : Value} (h : w.heap[b]? = some (.cells #[a0, a1, a2, a3, a4, a5, a6, a7, a8, a9] t (0, 0))) :
    (w.cell? ⟨b, 5, none⟩ = some a5 ∧ w.frozen? ⟨b, 5, none⟩ = false) ∧ (w.cell? ⟨b, 6, none⟩ = some a6 ∧ w.frozen? ⟨b, 6, none⟩ = false) := by
  refine ⟨⟨?_, ?_⟩, ⟨?_, ?_⟩⟩ <;> simp [World.cell?, World.frozen?, h]
theorem ten_put4 {w : World} {b : Nat} {t : TypeId} {a0 a1 a2 a3 a4 a5 a6 a7 a8 a9 : Value} (h : w.heap[b]? = some (.cells #[a0, a1, a2, a3, a4, a5, a6, a7, a8, a9] t (0, 0))) (b1 b2 b3 b4 : Value) :
    ((((w.setCell ⟨b, 1, none⟩ b1).setCell ⟨b, 2, none⟩ b2).setCell ⟨b, 3, none⟩ b3).setCell ⟨b, 4, none⟩ b4).heap[b]? = some (.cells #[a0, b1, b2, b3, b4, a5, a6, a7, a8, a9] t (0, 0)) ∧
      Keep [b] w ((((w.setCell ⟨b, 1, none⟩ b1).setCell ⟨b, 2, none⟩ b2).setCell ⟨b, 3, none⟩ b3).setCell ⟨b, 4, none⟩ b4) := by
  have z1 := heap_setCell_same w b 1 _ _ b1 h
  have z2 := heap_setCell_same _ b 2 _ _ b2 z1
  have z3 := heap_setCell_same _ b 3 _ _ b3 z2
  have z4 := heap_setCell_same _ b 4 _ _ b4 z3
  exact ⟨by simpa using z4, (((Keep.setCell _ _ (by simp)).trans (Keep.setCell _ _ (by simp))).trans (Keep.setCell _ _ (by simp))).trans (Keep.setCell _ _ (by simp))⟩
theorem ten_put2 {w : World} {b : Nat} {t : TypeId} {a0 a1 a2 a3 a4 a5 a6 a7 a8 a9 : Value} (h : w.heap[b]? = some (.cells #[a0, a1, a2, a3, a4, a5, a6, a7, a8, a9] t (0, 0))) (b2 b3 : Value) :
    ((w.setCell ⟨b, 2, none⟩ b2).setCell ⟨b, 3, none⟩ b3).heap[b]? = some (.cells #[a0, a1, b2, b3, a4, a5, a6, a7, a8, a9] t (0, 0)) ∧ Keep [b] w ((w.setCell ⟨b, 2, none⟩ b2).setCell ⟨b, 3, none⟩ b3) := by
  have z1 := heap_setCell_same w b 2 _ _ b2 h
  have z2 := heap_setCell_same _ b 3 _ _ b3 z1
  exact ⟨by simpa using z2, (Keep.setCell _ _ (by simp)).trans (Keep.setCell _ _ (by simp))⟩
theorem ten_put5 {w : World} {b : Nat} {t : TypeId} {a0 a1 a2 a3 a4 a5 a6 a7 a8 a9 : Value} (h : w.heap[b]? = some (.cells #[a0, a1, a2, a3, a4, a5, a6, a7, a8, a9] t (0, 0))) (b5 b6 : Value) :
    ((w.setCell ⟨b, 5, none⟩ b5).setCell ⟨b, 6, none⟩ b6).heap[b]? = some (.cells #[a0, a1, a2, a3, a4, b5, b6, a7, a8, a9] t (0, 0)) ∧ Keep [b] w ((w.setCell ⟨b, 5, none⟩ b5).setCell ⟨b, 6, none⟩ b6) := by
  have z1 := heap_setCell_same w b 5 _ _ b5 h
  have z2 := heap_setCell_same _ b 6 _ _ b6 z1
  exact ⟨by simpa using z2, (Keep.setCell _ _ (by simp)).trans (Keep.setCell _ _ (by simp))⟩

theorem one_ints {w : World} {t : TypeId} {z : Nat} {x : Int} (h : Row w t z [x]) (h1 : -9223372036854775808 ≤ x) (h2 : x ≤ 9223372036854775807) : IntsAt w (some ⟨z, 0, none⟩) [x] := by
  refine ⟨fun _ => ⟨z, 0, rfl, h.lt, fun i hi => by rw [Nat.zero_add]; exact h.cell hi⟩, fun i => ?_, fun i => ?_⟩
  · cases i with
    | zero => simpa using h1
    | succ i => simp
  · cases i with
    | zero => simpa using h2
    | succ i => simp
theorem setCell_size (w : World) (a : Addr) (v : Value) : (w.setCell a v).heap.size = w.heap.size := by simp [World.setCell]
/-- What one of them is. -/
structure AV.made (w0 w : World) (va : Option Addr) (v : AV) (z x : Nat) : Prop where
  d : inI v.d
  k : inI v.k
  c : inI v.c
  l : inI v.l
  cf : inI v.cf
  a : inI v.a
  i : inI v.i
  x' : inI v.x
  at_ : v.ca = some ⟨z, 0, none⟩
  L : v.cL = [(x : Int)]
  few : x ≤ 4
  row : Row w 3 z [(x : Int)]
  new : w0.heap.size ≤ z
  far : ∀ a, va = some a → a.block ≠ z
/-- A list of them that was made since w0. -/
structure Ask9L (w0 w : World) (va : Option Addr) (n vc : Nat) (vs : List AV) : Prop where
  own : w.ownsRow w0.heap.size 29 10 (.slice va n vc) n (vs.map AV.cells).flatten
  len : vs.length = n
  each : ∀ (i : Nat) (v : AV), vs[i]? = some v → ∃ z x, v.made w0 w va z x
theorem Ask9L.nil (w0 w : World) : Ask9L w0 w none 0 0 [] := ⟨World.ownsRow_nil _ _ _ _, rfl, fun i v h => by simp at h⟩
theorem AV.made.keep {S : List Nat} {w0 w w' : World} {va : Option Addr} {v : AV} {z x : Nat} (m : v.made w0 w va z x) (K : Keep S w w') (hZ : z ∉ S) : v.made w0 w' va z x := { m with row := m.row.keep K hZ }
theorem Ask9L.keep {S : List Nat} {w0 w w' : World} {va : Option Addr} {n vc : Nat} {vs : List AV} (h : Ask9L w0 w va n vc vs) (K : Keep S w w') (hZ : ∀ k, k ∈ S → w.heap.size ≤ k) : Ask9L w0 w' va n vc vs := by
  refine ⟨own_keepS h.own K (fun a e hs => by have := (own_far h.own a e).2; have := hZ _ hs; omega), h.len, fun i v e => ?_⟩
  obtain ⟨z, x, m⟩ := h.each i v e
  exact ⟨z, x, m.keep K (fun e => by have := hZ _ e; have := m.row.lt; omega)⟩
theorem Ask9L.added {w0 w w4 : World} {va : Option Addr} {n vc z x g cap : Nat} {vs : List AV} {v : AV} {ob : Obj} (h : Ask9L w0 w va n vc vs) (hv : v.made w0 w va z x)
    (hown : w4.ownsRow w0.heap.size 29 10 (.slice (some ⟨g, 0, none⟩) (n + 1) cap) (n + 1) ((vs.map AV.cells).flatten ++ v.cells)) (hg : (w.alloc ob).grownBy w4 (Value.slice va n vc).ownBlock) (hat : (Value.slice va n vc).ownBlock = some g ∨ g = w.heap.size + 1) :
    Ask9L w0 w4 (some ⟨g, 0, none⟩) (n + 1) cap (vs ++ [v]) := by
  have step : ∀ (v : AV) (z x : Nat), v.made w0 w va z x → v.made w0 w4 (some ⟨g, 0, none⟩) z x := by
    intro v z x m
    have hlt := m.row.lt
    refine { m with row := ?_, far := fun a e => ?_ }
    · have e1 : (w.alloc ob).heap[z]? = w.heap[z]? := Below.heap_alloc _ _ _ hlt
      have : w4.heap[z]? = (w.alloc ob).heap[z]? := hg.block z (by simp; omega) (fun e => by
        obtain ⟨a, e1, e2⟩ := own_blk e.symm
        exact m.far a e1 e2)
      show w4.heap[z]? = _
      rw [this, e1]; exact m.row
    · cases e
      rcases hat with e | e
      · obtain ⟨a, e1, e2⟩ := own_blk e
        intro e3; exact m.far a e1 (e2.trans e3)
      · simp only; omega
  refine ⟨by rw [List.map_append, List.flatten_append]; simpa using hown, by simp [h.len], fun i u e => ?_⟩
  rcases Nat.lt_trichotomy i vs.length with hi | hi | hi
  · rw [List.getElem?_append_left hi] at e
    obtain ⟨z, x, m⟩ := h.each i u e
    exact ⟨z, x, step u z x m⟩
  · subst hi
    simp at e
    subst e
    exact ⟨z, x, step v z x hv⟩
  · rw [List.getElem?_eq_none (by simp; omega)] at e; cases e
def AV.none' : AV := ⟨0, 0, 0, 0, false, 0, none, 0, [], 0, 0, 0⟩
theorem Ask9L.read {w0 w : World} {va : Option Addr} {n vc : Nat} {vs : List AV} (h : Ask9L w0 w va n vc vs) (hn : n ≤ 50) : AskAt w va n n (fun i => vs[i]?.getD AV.none') := by
  have hi : ∀ i, i < n → ∃ v, vs[i]? = some v := fun i hi => ⟨vs[i]'(by rw [h.len]; exact hi), by simp [h.len, hi]⟩
  refine ⟨fun h0 => ?_, fun i hin => ?_, ⟨Nat.le_refl _, by omega, .inl rfl⟩⟩
  · obtain ⟨b, e, _, hb, hc⟩ := wide_cells h.own (fun v hv => by
      simp at hv
      obtain ⟨u, _, rfl⟩ := hv
      rfl) (by rw [List.length_map]; exact h.len) h0
    refine ⟨b, 0, e, hb, fun i t hin ht => ?_⟩
    obtain ⟨v, hv⟩ := hi i hin
    simp only [hv, Option.getD_some, Nat.zero_add]
    exact hc i v.cells t (by rw [List.getElem?_map, hv]; rfl) ht
  · obtain ⟨v, hv⟩ := hi i hin
    obtain ⟨z, x, m⟩ := h.each i v hv
    simp only [hv, Option.getD_some]
    refine ⟨⟨m.d, m.k, m.c, m.l, m.cf, m.a, m.i, m.x', fun e => (by rw [m.at_] at e; cases e), by rw [m.at_, m.L]; exact one_ints m.row (by omega) (by have := m.few; omega)⟩, by rw [m.L]; simp⟩
theorem ten_one (a0 a1 a2 a3 a5 a7 a8 a9 : Int) (f : Bool) (ca : Option Addr) (n c : Nat) : ∀ u ∈ [Value.int .i64 a0, .int .i64 a1, .int .i64 a2, .int .i64 a3, .bool f, .int .i64 a5, .slice ca n c, .int .i64 a7, .int .i64 a8, .int .i64 a9], u.oneCell' = true := by
  intro u hu
  simp at hu
  rcases hu with rfl | rfl | rfl | rfl | rfl | rfl | rfl | rfl | rfl | rfl <;> rfl

set_option maxRecDepth 100000 in
set_option maxHeartbeats 6400000 in
theorem lasks (ao : Option Addr) (n cp : Nat) (A : Nat → Nat) (w : World) (hn : n ≤ 9223372036854775807) (hA : U8At w ao n A) :
    Calls Tryz.prog 7 #[.slice ao n cp] w fun e w' => ∃ la q lc B, e = .returned (.slice la q lc) ∧ AskAt w' la q q B ∧ Keep [] w w' := by
  have HA := (show Hid (U8At w ao n A) from hA)
  clear hA
  obtain ⟨i0', hi, hz0, hz1, hz2⟩ := info_parts Tryz.infoAsk9
  have hI : Hid (Tryz.prog.info? 29 = some i0' ∧ i0'.zero = some (.agg #[.int .i64 0, .int .i64 0, .int .i64 0, .int .i64 0, .bool false, .int .i64 0, .slice none 0 0, .int .i64 0, .int .i64 0, .int .i64 0]) ∧ i0'.size = 10 ∧ i0'.bytes = 96) := ⟨hi, hz0, hz1, hz2⟩
  clear hi hz0 hz1 hz2
  go_enter Tryz.func7, Tryz.ntmps7
  go_wp2_with fail
  go_loopw [3, 4] (fun l i wr => ∃ (q : Nat) (la : Option Addr) (lc : Nat) (vs : List AV), l = .slice la q lc ∧ i = .int .i64 ((4 * q : Nat) : Int) ∧ q ≤ 50 ∧ Hid (Ask9L w wr la q lc vs) ∧ Keep [] w wr) (fun _ i _ => 200 - (intOf i).toNat)
  case atStart => exact ⟨0, none, 0, [], rfl, rfl, by omega, Ask9L.nil _ _, Keep.refl _ _⟩
  case round =>
    obtain ⟨q, la, lc, vs, rfl, rfl, hq, HO, hK⟩ := hrel
    obtain ⟨p, hp⟩ : ∃ p, 4 * q = p := ⟨_, rfl⟩
    rw [hp]
    by_cases hlt : p + 3 < n ∧ q < 50
    · obtain ⟨h1, h2⟩ := hlt
      have d1 : decide ((q : Int) < 50) = true := decide_eq_true (by omega)
      obtain ⟨b, off, rfl, hbs, hcell⟩ := HA.out.cells (by omega)
      have hlt := HA.out.lt
      have c0 := (hK.cell hbs (by simp) (off + p)).trans (hcell p (by omega))
      have c1 := (hK.cell hbs (by simp) (off + (p + 1))).trans (hcell (p + 1) (by omega))
      have c2 := (hK.cell hbs (by simp) (off + (p + 2))).trans (hcell (p + 2) (by omega))
      have c3 := (hK.cell hbs (by simp) (off + (p + 3))).trans (hcell (p + 3) (by omega))
      have l0 := hlt p
      have l1 := hlt (p + 1)
      have l2 := hlt (p + 2)
      have l3 := hlt (p + 3)
      generalize A p = x0 at *
      generalize A (p + 1) = x1 at *
      generalize A (p + 2) = x2 at *
      generalize A (p + 3) = x3 at *
      have i0 : (p : Int) < n := by omega
      have i1 : (p : Int) + 1 < n := by omega
      have i2 : (p : Int) + 2 < n := by omega
      have i3 : (p : Int) + 3 < n := by omega
      obtain ⟨r0, e0, f0⟩ := rem_nat x0 8 (by omega)
      obtain ⟨r1, e1, f1⟩ := rem_nat x1 64 (by omega)
      obtain ⟨r2, e2, f2⟩ := rem_nat x2 8 (by omega)
      have e0' : (x0 : Int).tmod 8 = r0 := e0
      have e1' : (x1 : Int).tmod 64 = r1 := e1
      have e2' : (x2 : Int).tmod 8 = r2 := e2
      have hwb : b < wr.heap.size := Nat.lt_of_lt_of_le hbs hK.size
      obtain ⟨s1, g1, g1'⟩ := rem_nat x1 4 (by omega)
      obtain ⟨s2, g2, g2'⟩ := rem_nat x2 70 (by omega)
      obtain ⟨s3, g3, g3'⟩ := rem_nat x3 4 (by omega)
      obtain ⟨s4, g4, g4'⟩ := rem_nat x3 3 (by omega)
      obtain ⟨s5, g5, g5'⟩ := rem_nat x3 5 (by omega)
      obtain ⟨s6, g6, g6'⟩ := rem_nat x2 5 (by omega)
      clear hcell hlt
      go_upto_region 5 with fail
      go_cut [5] from 6 to 122 (fun v5 wz => Hid (v5 = .pointer (some ⟨wr.heap.size, 0, none⟩) ∧ Keep [] wr wz ∧ wz.heap[wr.heap.size]? = some (.cells #[.int .i64 r0, .int .i64 0, .int .i64 0, .int .i64 0, .bool false, .int .i64 0, .slice none 0 0, .int .i64 r1, .int .i64 r2, .int .i64 x3] 29 (0, 0))))
      case first =>
        as_aux_lemma =>
          have k0 : ∀ o, (wr.alloc o).drew.cell? ⟨b, off + p, none⟩ = some (.int .u8 x0) := fun o => (((Keep.alloc [] wr o).trans (Keep.drew [] _)).cell hwb (by simp) _).trans c0
          have k1 : ∀ o, (wr.alloc o).drew.cell? ⟨b, off + (p + 1), none⟩ = some (.int .u8 x1) := fun o => (((Keep.alloc [] wr o).trans (Keep.drew [] _)).cell hwb (by simp) _).trans c1
          have k2 : ∀ o, (wr.alloc o).drew.cell? ⟨b, off + (p + 2), none⟩ = some (.int .u8 x2) := fun o => (((Keep.alloc [] wr o).trans (Keep.drew [] _)).cell hwb (by simp) _).trans c2
          have k3 : ∀ o, (wr.alloc o).drew.cell? ⟨b, off + (p + 3), none⟩ = some (.int .u8 x3) := fun o => (((Keep.alloc [] wr o).trans (Keep.drew [] _)).cell hwb (by simp) _).trans c3
          clear g1 g2 g3 g4 g5 g6 e0 e1 e2
          go_region
          go_wp2_with fail
          go_meet
          exact ⟨rfl, (Keep.alloc [] wr _).trans (Keep.drew [] _), heap_alloc_new wr _⟩
      case rest =>
        obtain ⟨rfl, hK5, hx5⟩ := (show Hid _ from hcut).out
        have HK5 := (show Hid (Keep [] wr wc) from hK5)
        obtain ⟨w5, rfl⟩ : ∃ w5, w5 = wc := ⟨_, rfl⟩
        clear hcut e0 e1 e2 e0' e1' e2' c0 hK5
        obtain ⟨bx, hbx⟩ : ∃ bx, wr.heap.size = bx := ⟨_, rfl⟩
        rw [hbx] at hx5 ⊢
        have hne : b ∉ [bx] := by simp; omega
        go_upto_region 6 with fail
        go_cut [] from 6 to 122 (fun wz => Hid (Keep [bx] wr wz ∧ wz.heap[bx]? = some (.cells #[.int .i64 r0, .int .i64 (1 + (s1 : Int)), .int .i64 0, .int .i64 s2, .bool false, .int .i64 0, .slice none 0 0, .int .i64 r1, .int .i64 r2, .int .i64 x3] 29 (0, 0))))
        case first =>
          as_aux_lemma =>
            have g1'' : (x1 : Int).tmod 4 = s1 := g1
            have g2'' : (x2 : Int).tmod 70 = s2 := g2
            have m1 : w5.drew.cell? ⟨b, off + (p + 1), none⟩ = some (.int .u8 x1) := ((HK5.out.trans (Keep.drew [] _)).cell hwb (by simp) _).trans c1
            have m2 : w5.drew.cell? ⟨b, off + (p + 2), none⟩ = some (.int .u8 x2) := ((HK5.out.trans (Keep.drew [] _)).cell hwb (by simp) _).trans c2
            obtain ⟨⟨y1, z1⟩, ⟨y2, z2⟩, ⟨y3, z3⟩, ⟨y4, z4⟩⟩ := ten_head hx5
            obtain ⟨⟨v1, u1⟩, ⟨v2, u2⟩, ⟨v3, u3⟩, ⟨v4, u4⟩⟩ := ten_head ((Keep.drew [] w5).blk hx5 (by simp))
            clear g1 g2 g3 g4 g5 g6
            go_region
            go_wp2_with fail
            go_meet
            exact ⟨((HK5.out.mono (by simp)).trans (ten_put4 hx5 (.int .i64 (1 + (s1 : Int))) (.int .i64 0) (.int .i64 s2) (.bool false)).2).trans (Keep.drew [bx] _), (Keep.drew [] _).blk (ten_put4 hx5 (.int .i64 (1 + (s1 : Int))) (.int .i64 0) (.int .i64 s2) (.bool false)).1 (by simp)⟩
        case rest =>
          obtain ⟨hK6, hx6⟩ := hcut.out
          have HK6 := (show Hid (Keep [bx] wr wc) from hK6)
          obtain ⟨w6, rfl⟩ : ∃ w6, w6 = wc := ⟨_, rfl⟩
          clear hcut hK6 HK5 hx5 w5 c1 g1 g2
          obtain ⟨⟨y1, z1⟩, ⟨y2, z2⟩, ⟨y3, z3⟩, ⟨y4, z4⟩⟩ := ten_head hx6
          go_upto_block 2 with fail
          go_cut [] from 6 to 122 (fun wz => ∃ (c l : Int), Hid (0 ≤ c ∧ c ≤ 5 ∧ 0 ≤ l ∧ l ≤ 70 ∧ Keep [bx] wr wz ∧ wz.heap[bx]? = some (.cells #[.int .i64 r0, .int .i64 (1 + (s1 : Int)), .int .i64 c, .int .i64 l, .bool false, .int .i64 0, .slice none 0 0, .int .i64 r1, .int .i64 r2, .int .i64 x3] 29 (0, 0))))
          case first =>
            as_aux_lemma =>
              have m3 : w6.cell? ⟨b, off + (p + 3), none⟩ = some (.int .u8 x3) := (HK6.out.cell hwb hne _).trans c3
              have hbn : b ≠ bx := by simpa using hne
              have g3'' : (x3 : Int).tmod 4 = s3 := g3
              have g4'' : (x3 : Int).tmod 3 = s4 := g4
              clear g3 g4 g5 g6 l0 l1 l2 f0 f1 f2 g5' g6' HO hbx hK hne
              rcases (show s1 = 0 ∨ s1 = 1 ∨ s1 = 2 ∨ s1 = 3 by omega) with rfl | rfl | rfl | rfl
              · go_wp2_with fail
                go_meet
                exact ⟨1 + (s3 : Int), 1 + (s3 : Int), by omega, by omega, by omega, by omega, HK6.out.trans (ten_put2 hx6 _ _).2, (ten_put2 hx6 _ _).1⟩
              · go_wp2_with fail
                go_meet
                exact ⟨0, s2, by omega, by omega, by omega, by omega, HK6.out, hx6⟩
              · go_wp2_with fail
                go_meet
                exact ⟨0, s2, by omega, by omega, by omega, by omega, HK6.out, hx6⟩
              · go_wp2_with fail
                go_meet
                exact ⟨1 + (s4 : Int), 5, by omega, by omega, by omega, by omega, HK6.out.trans (ten_put2 hx6 _ _).2, (ten_put2 hx6 _ _).1⟩
          case rest =>
            obtain ⟨c, l, HC⟩ := hcut
            obtain ⟨w7, rfl⟩ : ∃ w7, w7 = wc := ⟨_, rfl⟩
            obtain ⟨j1, j2, j3, j4, hK7, hx7⟩ := HC.out
            have HK7 := (show Hid (Keep [bx] wr w7) from hK7)
            clear HK6 hx6 y1 z1 y2 z2 y3 z3 y4 z4 w6 g3 g4 HC hK7
            go_upto_region 14 with fail
            go_cut [] from 6 to 122 (fun wz => ∃ z : Nat, Hid (wr.heap.size ≤ z ∧ Row wz 3 z [(s6 : Int)] ∧ Keep [bx] wr wz ∧ wz.heap[bx]? = some (.cells #[.int .i64 r0, .int .i64 (1 + (s1 : Int)), .int .i64 c, .int .i64 l, .bool false, .int .i64 (1 + (s5 : Int)), .slice (some ⟨z, 0, none⟩) 1 1, .int .i64 r1, .int .i64 r2, .int .i64 x3] 29 (0, 0))))
            case first =>
              as_aux_lemma =>
                have hb7 : b < w7.heap.size := Nat.lt_of_lt_of_le hwb HK7.out.size
                have g5'' : (x3 : Int).tmod 5 = s5 := g5
                have g6'' : (x2 : Int).tmod 5 = s6 := g6
                clear g5 g6
                have k2 : w7.drew.cell? ⟨b, off + (p + 2), none⟩ = some (.int .u8 x2) := ((HK7.out.trans (Keep.drew [bx] _)).cell hwb hne _).trans c2
                have k3 : w7.drew.cell? ⟨b, off + (p + 3), none⟩ = some (.int .u8 x3) := ((HK7.out.trans (Keep.drew [bx] _)).cell hwb hne _).trans c3
                have k2' : ∀ o, (w7.alloc o).drew.cell? ⟨b, off + (p + 2), none⟩ = some (.int .u8 x2) := fun o => (((HK7.out.trans (Keep.alloc [bx] _ o)).trans (Keep.drew [bx] _)).cell hwb hne _).trans c2
                have k3' : ∀ o, (w7.alloc o).drew.cell? ⟨b, off + (p + 3), none⟩ = some (.int .u8 x3) := fun o => (((HK7.out.trans (Keep.alloc [bx] _ o)).trans (Keep.drew [bx] _)).cell hwb hne _).trans c3
                obtain ⟨⟨y5, z5⟩, ⟨y6, z6⟩⟩ := ten_cls hx7
                have hA7 : ∀ o, (w7.alloc o).heap[bx]? = some (.cells #[.int .i64 r0, .int .i64 (1 + (s1 : Int)), .int .i64 c, .int .i64 l, .bool false, .int .i64 0, .slice none 0 0, .int .i64 r1, .int .i64 r2, .int .i64 x3] 29 (0, 0)) := fun o => (Keep.alloc [] w7 o).blk hx7 (by simp)
                have y5' : ∀ o, (w7.alloc o).cell? ⟨bx, 5, none⟩ = some (.int .i64 0) := fun o => (ten_cls (hA7 o)).1.1
                have z5' : ∀ o, (w7.alloc o).frozen? ⟨bx, 5, none⟩ = false := fun o => (ten_cls (hA7 o)).1.2
                have y6' : ∀ o, (w7.alloc o).cell? ⟨bx, 6, none⟩ = some (.slice none 0 0) := fun o => (ten_cls (hA7 o)).2.1
                have z6' : ∀ o, (w7.alloc o).frozen? ⟨bx, 6, none⟩ = false := fun o => (ten_cls (hA7 o)).2.2
                have y5'' : ∀ o, (w7.alloc o).drew.cell? ⟨bx, 5, none⟩ = some (.int .i64 0) := y5'
                have z5'' : ∀ o, (w7.alloc o).drew.frozen? ⟨bx, 5, none⟩ = false := z5'
                have y6'' : ∀ o, (w7.alloc o).drew.cell? ⟨bx, 6, none⟩ = some (.slice none 0 0) := y6'
                have z6'' : ∀ o, (w7.alloc o).drew.frozen? ⟨bx, 6, none⟩ = false := z6'
                go_region
                have hbx7 : bx < w7.heap.size := lt_of_block hx7
                have hz7 : Row (w7.alloc (.cells #[.int .i64 s6] 3)) 3 w7.heap.size [(s6 : Int)] := heap_alloc_new w7 _
                have hP := ten_put5 ((Keep.alloc [] w7 (.cells #[.int .i64 s6] 3)).blk hx7 (by simp)) (.int .i64 (1 + (s5 : Int))) (.slice (some ⟨w7.heap.size, 0, none⟩) 1 1)
                have hx8 := (Keep.drew [] _).blk hP.1 (by simp)
                have hz8 := (hz7.keep hP.2 (by simp; omega)).keep (Keep.drew [] _) (by simp)
                have hK8 := ((HK7.out.trans (Keep.alloc [bx] _ _)).trans hP.2).trans (Keep.drew [bx] _)
                have hz0 : wr.heap.size ≤ w7.heap.size := HK7.out.size
                clear k2 k3 k2' k3' y5 z5 y6 z6 y5' z5' y6' z6' y5'' z5'' y6'' z6'' hA7
                go_wp2_with fail
                go_meet
                exact ⟨_, hz0, hz8, hK8, hx8⟩
            case rest =>
              obtain ⟨z, hC⟩ := hcut
              obtain ⟨w8, rfl⟩ : ∃ w8, w8 = wc := ⟨_, rfl⟩
              obtain ⟨hz0, hz8, hK8, hx8⟩ := hC.out
              clear hC HK7 hx7 w7 c2 c3 g5 g6
              obtain ⟨t0, t1, t2, t3, t4, t5, t6, t7, t8, t9⟩ := ten_cells hx8
              have HO8 := (show Hid (Ask9L w w8 la q lc vs) from HO.out.keep hK8 (by intro k hk; simp at hk; omega))
              have hws := hK.size
              have HZ := (show Hid (AV.made w w8 la ⟨r0, 1 + (s1 : Int), c, l, false, 1 + (s5 : Int), some ⟨z, 0, none⟩, 1, [(s6 : Int)], r1, r2, x3⟩ z s6) from
                ⟨by unfold inI; simp only; omega, by unfold inI; simp only; omega, by unfold inI; simp only; omega, by unfold inI; simp only; omega, by unfold inI; simp only; omega, by unfold inI; simp only; omega, by unfold inI; simp only; omega, by unfold inI; simp only; omega, rfl, rfl, by omega, hz8, by omega, fun a e => by have := (own_far HO.out.own a e).2; omega⟩)
              have HK8 := (show Hid (Keep [] w w8) from (hK.trans (hK8.drop (T := []) (by intro k hk hkw; simp at hk; omega))))
              have hs8 : w.heap.size ≤ w8.heap.size := HK8.out.size
              have HOA := (show Hid ((w8.alloc (.cells #[.int .i64 r0, .int .i64 (1 + (s1 : Int)), .int .i64 c, .int .i64 l, .bool false, .int .i64 (1 + (s5 : Int)), .slice (some ⟨z, 0, none⟩) 1 1, .int .i64 r1, .int .i64 r2, .int .i64 x3] 29)).ownsRow w.heap.size 29 10 (.slice la q lc) q (vs.map AV.cells).flatten) from HO8.out.own.alloc _)
              clear hx8 hz8 hK8 hK HO
              go_wp2_with (first | (at_builtin; refine wpList_append_lies _ rfl (.tmp 119) (.tmp 121) 22 rfl w.heap.size 29 i0' (.agg #[.int .i64 0, .int .i64 0, .int .i64 0, .int .i64 0, .bool false, .int .i64 0, .slice none 0 0, .int .i64 0, .int .i64 0, .int .i64 0]) 10 96 Tryz.underlying22 hI.out.1 hI.out.2.1 hI.out.2.2.1 hI.out.2.2.2 rfl (by decide) (.slice la q lc) q (vs.map AV.cells).flatten rfl HOA.out ⟨w8.heap.size, 0, none⟩ 1 1 [.int .i64 r0, .int .i64 (1 + (s1 : Int)), .int .i64 c, .int .i64 l, .bool false, .int .i64 (1 + (s5 : Int)), .slice (some ⟨z, 0, none⟩) 1 1, .int .i64 r1, .int .i64 r2, .int .i64 x3] rfl rfl (World.news_of_block (heap_alloc_new w8 _)) (ten_one _ _ _ _ _ _ _ _ _ _ _ _) (by omega) (by unfold maxLen; omega) (by omega) (by simp; omega) (w8.heap.size + 1) (by simp) ?_; intro g cap w9 hown hgrow hat hltg; have HADD := (show Hid (Ask9L w w9 (some ⟨g, 0, none⟩) (q + 1) cap (vs ++ [⟨r0, 1 + (s1 : Int), c, l, false, 1 + (s5 : Int), some ⟨z, 0, none⟩, 1, [(s6 : Int)], r1, r2, x3⟩]) ∧ Keep [] w w9) from ⟨HO8.out.added HZ.out hown hgrow hat, (HK8.out.trans (Keep.alloc [] w8 _)).grown hgrow (fun k e => by obtain ⟨a, e1, e2⟩ := own_blk e; have := (own_far HO8.out.own a e1).1; omega)⟩); clear hown hgrow hat hltg))
              go_roundw
              case rel => exact ⟨q + 1, _, _, _, rfl, by rw [show ((4 * (q + 1) : Nat) : Int) = (p : Int) + 4 from by omega], by omega, HADD.out.1, HADD.out.2⟩
              case measure => simp [intOf]; omega
    · have hpn : p ≤ 200 := by omega
      rcases (show (¬ p + 3 < n) ∨ (p + 3 < n ∧ ¬ q < 50) by omega) with h1 | ⟨h1, h2⟩
      · have d1 : decide ((p : Int) + 3 < n) = false := decide_eq_false (by omega)
        go_wp2_with fail
        go_ret
        exact ⟨la, q, lc, _, rfl, HO.out.read hq, hK⟩
      · have d1 : decide ((p : Int) + 3 < n) = true := decide_eq_true (by omega)
        have d2 : decide ((q : Int) < 50) = false := decide_eq_false (by omega)
        go_wp2_with fail
        go_ret
        exact ⟨la, q, lc, _, rfl, HO.out.read hq, hK⟩

end Go.Proofs.YtdpaffnpedcmpaaGreat
