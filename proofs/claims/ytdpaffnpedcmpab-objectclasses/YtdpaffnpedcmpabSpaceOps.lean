/-
  New, Alloc and Free of package space.
-/
import Derived.Test.YtdpaffnpedcmpabSpaceEach
import Derived.RegionTactic
import Derived.ChangeAlike
namespace Go.Proofs.Ytdpaffnpedcmpab
open Go.RowKit

theorem Try.infoPage : (Try.prog.info? 71).map (fun i => (i.zero, i.size, i.bytes)) = some (some (.pointer none), 1, 8) := by kernel_rfl

/-- A row of nils. -/
def nils (n : Nat) : List Value := List.replicate n (.pointer none)
theorem nils_made (n : Nat) : madeCells #[.pointer none] n = (nils n).toArray := by
  apply Array.toList_inj.1
  rw [toList_madeCells_one]
  simp [nils]
theorem nils_ptrs (n : Nat) (L : Lay) : nils n = ptrs L (freshK n) := by
  apply List.ext_getElem?
  intro q
  rcases Nat.lt_or_ge q n with hq | hq
  · rw [ptrs_get L (freshK n) q (by rw [freshK_length]; exact hq), freshK_at n q (by omega)]
    unfold nils
    rw [List.getElem?_replicate, if_pos hq]
    split <;> rfl
  · rw [List.getElem?_eq_none (by simpa [nils] using hq), List.getElem?_eq_none (by rw [ptrs_length, freshK_length]; exact hq)]

set_option maxHeartbeats 1000000 in
theorem snew_no (n : Int) (w : World) (h : ¬ (1 ≤ n ∧ n ≤ 256)) :
    Calls Try.prog 20 #[.int .i64 n] w fun e w' => e = .returned (.tuple #[.pointer none, .int .i64 1]) ∧ w = w' := by
  go_enter Try.func20, Try.ntmps20
  go_wp2_with (go_at_call 39; refine (new_no _ _ h).mono ?_; rintro e w' ⟨rfl, rfl⟩)
  go_ret2
  exact ⟨rfl, rfl⟩

/-- What New makes, whichever of its rows is made first. -/
theorem snew_is (w wz : World) (n sb ab ag pb b g gs gl : Nat) (hn : 1 ≤ n) (hA : IsArena wz ab ag (zeros (n * 64))) (hP : IsPages wz pb b g (fresh n)) (hd : wz.heap[sb]? = some (.cells #[.pointer (some ⟨ab, 0, none⟩), .pointer (some ⟨pb, 0, none⟩), .slice (some ⟨gs, 0, none⟩) n n, .slice (some ⟨gl, 0, none⟩) n n] 63 (0, 0)))
    (hs : wz.heap[gs]? = some (.cells (nils n).toArray 71 (0, 0))) (hl : Row wz 3 gl (zeros n)) (hK : Keep [] w wz)
    (g1 : w.heap.size ≤ ab ∧ w.heap.size ≤ ag ∧ w.heap.size ≤ pb ∧ w.heap.size ≤ b ∧ w.heap.size ≤ g ∧ w.heap.size ≤ gs ∧ w.heap.size ≤ gl ∧ w.heap.size ≤ sb)
    (ho : (ab < pb ∧ ab < b ∧ ab < g) ∧ (ag < pb ∧ ag < b ∧ ag < g) ∧ (pb < gs ∧ b < gs ∧ g < gs) ∧ (pb < gl ∧ b < gl ∧ g < gl) ∧ gs ≠ gl ∧ gs < sb ∧ gl < sb) :
    ∃ F, IsSpace wz sb F (zeros (64 * n)) (freshK n) ∧ Keep [] w wz ∧ sb ∈ F ∧ ∀ k, k ∈ F → w.heap.size ≤ k := by
  have n1 := hA.ne
  have n2 := hP.ne1
  have n3 := hP.ne2
  have n4 := hP.bits.ne
  have l1 := hA.lt
  have l2 := hP.lt
  have l3 := lt_of_block hd
  have l4 := lt_of_block hs
  have l5 := hl.lt
  let r : Nat → Nat := fun k => if k = sb then 0 else if k = ab then 1 else if k = ag then 2 else if k = pb then 3 else if k = b then 4 else if k = g then 5 else if k = gs then 6 else 7
  have none : ∀ p c xs, kat (freshK n) p ≠ .small c xs := by
    intro p c xs e
    rw [freshK_at n p hn] at e
    split at e <;> cases e
  refine ⟨[sb, ab, ag, pb, b, g, gs, gl], ⟨⟨ab, ag, pb, b, g, gs, gl, fun _ => (0, 0, 0), r⟩, ?_⟩, hK, by simp, fun k hk => ?_⟩
  · exact {
      head := by rw [freshK_length]; exact hd
      arena := by rw [Nat.mul_comm]; exact hA
      pages := by rw [freshK_taken n hn]; exact hP
      rowS := by rw [← nils_ptrs]; exact hs
      rowL := by rw [freshK_big n hn]; exact hl
      page := fun p c xs e => absurd e (none p c xs)
      len := by rw [zeros_length, freshK_length]
      r0 := if_pos rfl
      r1 := by show (if ab = sb then _ else if ab = ab then _ else _) = _; rw [if_neg (by omega), if_pos rfl]
      r2 := by show (if ag = sb then _ else if ag = ab then _ else if ag = ag then _ else _) = _; rw [if_neg (by omega), if_neg (by omega), if_pos rfl]
      r3 := by show r pb = _; simp only [r]; rw [if_neg (by omega), if_neg (by omega), if_neg (by omega), if_pos trivial]
      r4 := by show r b = _; simp only [r]; rw [if_neg (by omega), if_neg (by omega), if_neg (by omega), if_neg (by omega), if_pos trivial]
      r5 := by show r g = _; simp only [r]; rw [if_neg (by omega), if_neg (by omega), if_neg (by omega), if_neg (by omega), if_neg (by omega), if_pos trivial]
      r6 := by show r gs = _; simp only [r]; rw [if_neg (by omega), if_neg (by omega), if_neg (by omega), if_neg (by omega), if_neg (by omega), if_neg (by omega), if_pos trivial]
      r7 := by show r gl = _; simp only [r]; rw [if_neg (by omega), if_neg (by omega), if_neg (by omega), if_neg (by omega), if_neg (by omega), if_neg (by omega), if_neg (by omega)]
      rp := fun p c xs e => absurd e (none p c xs)
      f := by simp
      fp := fun p c xs e => absurd e (none p c xs)
      lt := by
        intro k hk
        simp only [List.mem_cons, List.not_mem_nil, or_false] at hk
        omega }
  · simp only [List.mem_cons, List.not_mem_nil, or_false] at hk
    omega

theorem three_new (w : World) (o1 o2 o3 : Obj) : (((w.alloc o1).alloc o2).alloc o3).drew.heap[w.heap.size]? = some o1 ∧ (((w.alloc o1).alloc o2).alloc o3).drew.heap[w.heap.size + 1]? = some o2 ∧
    (((w.alloc o1).alloc o2).alloc o3).drew.heap[w.heap.size + 1 + 1]? = some o3 ∧ Keep [] w (((w.alloc o1).alloc o2).alloc o3).drew := by
  have k1 := Keep.alloc [] w o1
  have k2 := Keep.alloc [] (w.alloc o1) o2
  have k3 := Keep.alloc [] ((w.alloc o1).alloc o2) o3
  have k4 := Keep.drew [] (((w.alloc o1).alloc o2).alloc o3)
  have e1 := heap_alloc_new w o1
  have e2 := heap_alloc_new (w.alloc o1) o2
  have e3 := heap_alloc_new ((w.alloc o1).alloc o2) o3
  have z1 : (w.alloc o1).heap.size = w.heap.size + 1 := by simp
  have z2 : ((w.alloc o1).alloc o2).heap.size = w.heap.size + 1 + 1 := by simp
  rw [z1] at e2
  rw [z2] at e3
  exact ⟨k4.blk (k3.blk (k2.blk e1 (by simp)) (by simp)) (by simp), k4.blk (k3.blk e2 (by simp)) (by simp), k4.blk e3 (by simp), ((k1.trans k2).trans k3).trans k4⟩
set_option maxHeartbeats 2000000 in
theorem snew_ok (n : Nat) (w : World) (h1 : 1 ≤ n) (h2 : n ≤ 256) :
    Calls Try.prog 20 #[.int .i64 n] w fun e w' => ∃ sb F, e = .returned (.tuple #[.pointer (some ⟨sb, 0, none⟩), .int .i64 0]) ∧ IsSpace w' sb F (zeros (64 * n)) (freshK n) ∧ Keep [] w w' ∧ sb ∈ F ∧ ∀ k, k ∈ F → w.heap.size ≤ k := by
  have hmk1 : ∀ w, (Instr.makeSlice 46 (.int .i64 (n : Int)) (.int .i64 (n : Int))).run Try.prog w = .ok (.slice (some ⟨w.heap.size, 0, none⟩) n n) (w.alloc (.cells (madeCells #[.int .i64 0] n) 3)) :=
    fun w => run_make_row' (P := Try.prog) 46 3 (.int .i64 0) 8 Try.underlying46 Try.infoInt rfl .i64 .i64 n (by omega) (by omega) w
  have hmk2 : ∀ w, (Instr.makeSlice 61 (.int .i64 (n : Int)) (.int .i64 (n : Int))).run Try.prog w = .ok (.slice (some ⟨w.heap.size, 0, none⟩) n n) (w.alloc (.cells (madeCells #[.pointer none] n) 71)) :=
    fun w => run_make_row' (P := Try.prog) 61 71 (.pointer none) 8 Try.underlying61 Try.infoPage rfl .i64 .i64 n (by omega) (by omega) w
  go_enter Try.func20, Try.ntmps20
  go_wp2_with (first | (go_at_call 39; refine (new_ok n _ h1 h2).mono ?_; rintro e w1 ⟨ab, ag, rfl, hA, hK1, hab, hag⟩) | (go_at_call 40; refine (pnew_ok n _ h1 h2).mono ?_; rintro e w2 ⟨pb, b, g, rfl, hP, hK2, hpb, hb, hg⟩))
  have hA2 := hA.keep hK2 (by simp) (by simp)
  have ltA := hA.lt
  have ltP := hP.lt
  have sz1 := hK1.size
  have sz2 := hK2.size
  have hK3 := hK1.trans hK2
  have hP2 := hP
  clear hA hP hK1 hK2
  have HA := (show Hid (∃ F, IsSpace (((w2.alloc (.cells (madeCells #[.pointer none] n) 71)).alloc (.cells (madeCells #[.int .i64 0] n) 3)).alloc (.cells #[.pointer (some ⟨ab, 0, none⟩), .pointer (some ⟨pb, 0, none⟩), .slice (some ⟨w2.heap.size, 0, none⟩) n n, .slice (some ⟨w2.heap.size + 1, 0, none⟩) n n] 63)).drew (w2.heap.size + 1 + 1) F (zeros (64 * n)) (freshK n) ∧ Keep [] w (((w2.alloc (.cells (madeCells #[.pointer none] n) 71)).alloc (.cells (madeCells #[.int .i64 0] n) 3)).alloc (.cells #[.pointer (some ⟨ab, 0, none⟩), .pointer (some ⟨pb, 0, none⟩), .slice (some ⟨w2.heap.size, 0, none⟩) n n, .slice (some ⟨w2.heap.size + 1, 0, none⟩) n n] 63)).drew ∧ w2.heap.size + 1 + 1 ∈ F ∧ ∀ k, k ∈ F → w.heap.size ≤ k) from by
    obtain ⟨e1, e2, e3, k⟩ := three_new w2 (.cells (madeCells #[.pointer none] n) 71) (.cells (madeCells #[.int .i64 0] n) 3) (.cells #[.pointer (some ⟨ab, 0, none⟩), .pointer (some ⟨pb, 0, none⟩), .slice (some ⟨w2.heap.size, 0, none⟩) n n, .slice (some ⟨w2.heap.size + 1, 0, none⟩) n n] 63)
    refine snew_is w _ n _ ab ag pb b g w2.heap.size (w2.heap.size + 1) h1 (hA2.keep k (by simp) (by simp)) (hP2.keep k (by simp) (by simp) (by simp)) e3 (by rw [← nils_made]; exact e1) ?_ (hK3.trans k) (by omega) (by omega)
    unfold Row; rw [← ints_made]; exact e2)
  have HB := (show Hid (∃ F, IsSpace (((w2.alloc (.cells (madeCells #[.int .i64 0] n) 3)).alloc (.cells (madeCells #[.pointer none] n) 71)).alloc (.cells #[.pointer (some ⟨ab, 0, none⟩), .pointer (some ⟨pb, 0, none⟩), .slice (some ⟨w2.heap.size + 1, 0, none⟩) n n, .slice (some ⟨w2.heap.size, 0, none⟩) n n] 63)).drew (w2.heap.size + 1 + 1) F (zeros (64 * n)) (freshK n) ∧ Keep [] w (((w2.alloc (.cells (madeCells #[.int .i64 0] n) 3)).alloc (.cells (madeCells #[.pointer none] n) 71)).alloc (.cells #[.pointer (some ⟨ab, 0, none⟩), .pointer (some ⟨pb, 0, none⟩), .slice (some ⟨w2.heap.size + 1, 0, none⟩) n n, .slice (some ⟨w2.heap.size, 0, none⟩) n n] 63)).drew ∧ w2.heap.size + 1 + 1 ∈ F ∧ ∀ k, k ∈ F → w.heap.size ≤ k) from by
    obtain ⟨e1, e2, e3, k⟩ := three_new w2 (.cells (madeCells #[.int .i64 0] n) 3) (.cells (madeCells #[.pointer none] n) 71) (.cells #[.pointer (some ⟨ab, 0, none⟩), .pointer (some ⟨pb, 0, none⟩), .slice (some ⟨w2.heap.size + 1, 0, none⟩) n n, .slice (some ⟨w2.heap.size, 0, none⟩) n n] 63)
    refine snew_is w _ n _ ab ag pb b g (w2.heap.size + 1) w2.heap.size h1 (hA2.keep k (by simp) (by simp)) (hP2.keep k (by simp) (by simp) (by simp)) e3 (by rw [← nils_made]; exact e2) ?_ (hK3.trans k) (by omega) (by omega)
    unfold Row; rw [← ints_made]; exact e1)
  clear hA2 hP2 hK3
  go_region
  all_goals
    go_wp2
    go_ret2
    first
    | (obtain ⟨F, hF⟩ := HA.out; exact ⟨_, F, rfl, hF⟩)
    | (obtain ⟨F, hF⟩ := HB.out; exact ⟨_, F, rfl, hF⟩)

end Go.Proofs.Ytdpaffnpedcmpab
