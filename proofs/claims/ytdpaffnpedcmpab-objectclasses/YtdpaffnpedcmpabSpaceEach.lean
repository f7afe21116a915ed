/-
  Each and Used of package space.
-/
import Derived.Test.YtdpaffnpedcmpabSpaceFind
import Derived.Test.YtdpaffnpedcmpabOwn
import Derived.Test.YtdpaffnpedcmpabLists
namespace Go.Proofs.Ytdpaffnpedcmpab
open Go.RowKit

/-- Where the blocks of a page of class c begin that are taken, of its first j. -/
def startsTo (p c : Nat) (xs : List Bool) (j : Nat) : List Int := ((List.range j).filter (fun i => xs[i]?.getD false)).map (fun i => ((64 * p + i * sz c : Nat) : Int))
theorem startsTo_zero (p c : Nat) (xs : List Bool) : startsTo p c xs 0 = [] := rfl
theorem startsTo_yes (p c : Nat) (xs : List Bool) (j : Nat) (h : xs[j]?.getD false = true) : startsTo p c xs (j + 1) = startsTo p c xs j ++ [((64 * p + j * sz c : Nat) : Int)] := by
  unfold startsTo; rw [List.range_succ, List.filter_append, List.map_append]; simp [h]
theorem startsTo_no (p c : Nat) (xs : List Bool) (j : Nat) (h : xs[j]?.getD false = false) : startsTo p c xs (j + 1) = startsTo p c xs j := by
  unfold startsTo; rw [List.range_succ, List.filter_append, List.map_append]; simp [h]
theorem startsTo_skip (p c : Nat) (xs : List Bool) (i d : Nat) (h : ∀ t, i ≤ t → t < i + d → xs[t]?.getD false = false) : startsTo p c xs (i + d) = startsTo p c xs i := by
  induction d with
  | zero => rfl
  | succ d ih => rw [← Nat.add_assoc, startsTo_no _ _ _ _ (h (i + d) (by omega) (by omega)), ih (fun t a b => h t a (by omega))]
theorem startsTo_len (p c : Nat) (xs : List Bool) (j : Nat) : (startsTo p c xs j).length ≤ j := by
  unfold startsTo; rw [List.length_map]; exact Nat.le_trans (List.length_filter_le _ _) (by simp)
theorem getD_bd {L : List Int} (h : ∀ x ∈ L, -9223372036854775808 ≤ x ∧ x ≤ 9223372036854775807) : ∀ i : Nat, -9223372036854775808 ≤ L[i]?.getD 0 ∧ L[i]?.getD 0 ≤ 9223372036854775807 := by
  intro i
  by_cases hi : i < L.length
  · have := h (L[i]) (List.getElem_mem ..)
    simpa [hi] using this
  · rw [List.getElem?_eq_none (by omega)]; simp
theorem startsTo_mem (p c : Nat) (xs : List Bool) (j : Nat) (x : Int) (h : x ∈ startsTo p c xs j) : ∃ i, i < j ∧ xs[i]?.getD false = true ∧ x = ((64 * p + i * sz c : Nat) : Int) := by
  unfold startsTo at h
  obtain ⟨i, hi, rfl⟩ := List.mem_map.1 h
  obtain ⟨h1, h2⟩ := List.mem_filter.1 hi
  exact ⟨i, List.mem_range.1 h1, h2, rfl⟩
/-- Where the blocks of a page begin. -/
def startsK (p : Nat) : PK → List Int
  | .small c xs => startsTo p c xs xs.length
  | .part 0 _ => [((64 * p : Nat) : Int)]
  | _ => []
def eachTo (kd : List PK) (m : Nat) : List Int := (List.range m).flatMap (fun p => startsK p (kat kd p))
/-- Where all blocks begin. -/
def eachK (kd : List PK) : List Int := eachTo kd kd.length
theorem eachTo_succ (kd : List PK) (m : Nat) : eachTo kd (m + 1) = eachTo kd m ++ startsK m (kat kd m) := by
  unfold eachTo; rw [List.range_succ, List.flatMap_append]; simp
theorem eachTo_mem (kd : List PK) (m : Nat) (x : Int) (h : x ∈ eachTo kd m) : ∃ p, p < m ∧ x ∈ startsK p (kat kd p) := by
  unfold eachTo at h
  obtain ⟨p, h1, h2⟩ := List.mem_flatMap.1 h
  exact ⟨p, List.mem_range.1 h1, h2⟩
theorem WF.starts_len {kd : List PK} (h : WF kd) (p : Nat) : (startsK p (kat kd p)).length ≤ 32 := by
  cases e : kat kd p with
  | small c xs =>
    obtain ⟨hc, hl, _⟩ := h.small p c xs e
    have := startsTo_len p c xs xs.length
    have := (sz_facts c hc).2.2.2.2.2.1
    show (startsTo p c xs xs.length).length ≤ 32
    omega
  | part j k => cases j <;> simp [startsK]
  | _ => simp [startsK]
theorem WF.each_len {kd : List PK} (h : WF kd) (m : Nat) : (eachTo kd m).length ≤ 32 * m := by
  induction m with
  | zero => simp [eachTo]
  | succ m ih => rw [eachTo_succ, List.length_append]; have := h.starts_len m; omega
/-- A block that begins is found where it begins. -/
theorem WF.starts_in {kd : List PK} (h : WF kd) (p : Nat) (x : Int) (hx : x ∈ startsK p (kat kd p)) : ∃ a n : Nat, x = a ∧ a / 64 = p ∧ a ≤ 16384 ∧ findN kd a = some (a, n) ∧
    (∀ c xs, kat kd p = .small c xs → n = sz c) ∧ (∀ k, kat kd p = .part 0 k → n = 64 * k) := by
  have h2 := h.len2
  cases e : kat kd p with
  | small c xs =>
    have hp := kat_lt kd p (by rw [e]; simp)
    obtain ⟨hc, hl, _⟩ := h.small p c xs e
    rw [e] at hx
    obtain ⟨i, hi, hv, rfl⟩ := startsTo_mem p c xs _ x hx
    have e1 : (64 * p + i * sz c) / 64 = p ∧ (64 * p + i * sz c) % 64 / sz c = i ∧ (64 * p + i * sz c) % sz c = 0 ∧ i * sz c < 64 := by
      rw [hl] at hi
      rcases sz_cases c hc with ⟨e, f⟩ | ⟨e, f⟩ | ⟨e, f⟩ | ⟨e, f⟩ | ⟨e, f⟩ <;> rw [e] <;> rw [f] at hi <;> omega
    obtain ⟨e1, e2, e3, e4⟩ := e1
    refine ⟨_, sz c, rfl, e1, by omega, ?_, fun d ys e' => by cases e'; rfl, fun k e' => by cases e'⟩
    rw [find_small kd _ c xs (by rw [e1]; exact e), e2, if_pos hv, e3]; rfl
  | part j k =>
    have hp := kat_lt kd p (by rw [e]; simp)
    rw [e] at hx
    cases j with
    | zero =>
      have : x = ((64 * p : Nat) : Int) := by simpa [startsK] using hx
      subst this
      have e1 : 64 * p / 64 = p := by omega
      refine ⟨64 * p, 64 * k, rfl, e1, by omega, ?_, ?_, ?_⟩
      · rw [find_part kd _ 0 k (by rw [e1]; exact e), e1]; rfl
      · intro d ys e'; cases e'
      · intro k' e'; cases e'; rfl
    | succ j => cases hx
  | zero => rw [e] at hx; cases hx
  | free => rw [e] at hx; cases hx
theorem WF.each_in {kd : List PK} (h : WF kd) (m : Nat) (x : Int) (hx : x ∈ eachTo kd m) : ∃ a n : Nat, x = a ∧ a / 64 < m ∧ a ≤ 16384 ∧ findN kd a = some (a, n) := by
  obtain ⟨p, hp, hm⟩ := eachTo_mem kd m x hx
  obtain ⟨a, n, h1, h2, h3, h4, _⟩ := h.starts_in p x hm
  exact ⟨a, n, h1, by omega, h3, h4⟩
theorem WF.starts_bd {kd : List PK} (h : WF kd) (p : Nat) : ∀ i : Nat, -9223372036854775808 ≤ (startsK p (kat kd p))[i]?.getD 0 ∧ (startsK p (kat kd p))[i]?.getD 0 ≤ 9223372036854775807 :=
  getD_bd (fun x hx => by obtain ⟨a, n, rfl, _, h3, _⟩ := h.starts_in p x hx; omega)
theorem WF.each_bd {kd : List PK} (h : WF kd) (m : Nat) : ∀ i : Nat, -9223372036854775808 ≤ (eachTo kd m)[i]?.getD 0 ∧ (eachTo kd m)[i]?.getD 0 ≤ 9223372036854775807 :=
  getD_bd (fun x hx => by obtain ⟨a, n, rfl, _, h3, _⟩ := h.each_in m x hx; omega)

theorem owned_form {w : World} {base : Nat} {e : TypeId} {v : Value} {n : Nat} {L : List Int} (hown : w.ownsRow base e 1 v n (ints L)) (hbd : ∀ i : Nat, -9223372036854775808 ≤ L[i]?.getD 0 ∧ L[i]?.getD 0 ≤ 9223372036854775807) :
    ∃ la lc, v = .slice la L.length lc ∧ n = L.length ∧ IntsAt w la L ∧ (∀ a, la = some a → base ≤ a.block) ∧ (la = none → lc = 0) := by
  rcases own_ints hown hbd with ⟨rfl, rfl, rfl⟩ | ⟨gl, cap, rfl, h, hgl, _, hIL⟩
  · exact ⟨none, 0, rfl, rfl, IntsAt.nil _ _, fun a h => (by cases h), fun _ => rfl⟩
  · exact ⟨some ⟨gl, 0, none⟩, cap, rfl, h, hIL, fun a h => (by cases h; exact hgl), fun h => (by cases h)⟩

theorem own_keep6 {w w' : World} {base : Nat} {e : TypeId} {size : Nat} {v : Value} {n : Nat} {xs : List Value} (h : w.ownsRow base e size v n xs) (k : Keep [] w w') : w'.ownsRow base e size v n xs := by
  refine ⟨h.1, ?_⟩
  rcases h.2 with h | ⟨g, cap, cur, h1, h2, h3, h4⟩
  · exact .inl h
  · exact .inr ⟨g, cap, cur, h1, h2, k.blk h3 (by simp), h4⟩
def mz (n : Nat) (x : Int) : Nat := if x < 0 then 0 else 1 + n - x.toNat
/-- A slice of integers that a call hands back: what it holds, in memory that is new. -/
def GivesInts (w w' : World) (v : Value) (L : List Int) : Prop := ∃ la lc, v = .slice la L.length lc ∧ IntsAt w' la L ∧ (la = none → lc = 0) ∧ ∀ a, la = some a → w.heap.size ≤ a.block

set_option maxHeartbeats 2000000 in
theorem starts_small (sb p n gs gl q1 b g c : Nat) (xs : List Bool) (w : World) (hc2 : w.cell? ⟨sb, 2, none⟩ = some (.slice (some ⟨gs, 0, none⟩) n n)) (hc3 : w.cell? ⟨sb, 3, none⟩ = some (.slice (some ⟨gl, 0, none⟩) n n))
    (hcs : w.cell? ⟨gs, p, none⟩ = some (.pointer (some ⟨q1, 0, none⟩))) (hcl : w.cell? ⟨gl, p, none⟩ = some (.int .i64 0)) (hP : IsPage w q1 b g (sz c : Nat) xs) (hp : p < n) (hn : n ≤ 256) (hz : sz c ≤ 32) (hx : xs.length ≤ 32) :
    Calls Try.prog 53 #[.pointer (some ⟨sb, 0, none⟩), .int .i64 p] w fun e w' => ∃ v, e = .returned v ∧ GivesInts w w' v (startsTo p c xs xs.length) ∧ Keep [] w w' := by
  obtain ⟨i0, hi, hz0, hz1, hz2⟩ := info_parts Try.infoInt
  have hI : Hid (Try.prog.info? 3 = some i0 ∧ i0.zero = some (.int .i64 0) ∧ i0.size = 1 ∧ i0.bytes = 8) := ⟨hi, hz0, hz1, hz2⟩
  clear hi hz0 hz1 hz2
  obtain ⟨s, hs⟩ : ∃ s, sz c = s := ⟨_, rfl⟩
  have HS := (show Hid (sz c = s) from hs)
  rw [hs] at hP hz
  have hP0 : ∀ k, IsPage (w.drewN k) q1 b g s xs := fun k => hP.keep (Keep.drewN [] w k) (by simp) (by simp) (by simp)
  clear hs
  go_enter Try.func53, Try.ntmps53
  go_wp2
  go_quiet (fail)
  have hPq := hP0 nq
  have hKq := Keep.drewN [] w nq
  have hc3q : (w.drewN nq).cell? ⟨sb, 3, none⟩ = some (.slice (some ⟨gl, 0, none⟩) n n) := hc3
  have hclq : (w.drewN nq).cell? ⟨gl, p, none⟩ = some (.int .i64 0) := hcl
  clear hP hP0 hc2 hc3 hcs hcl
  generalize w.drewN nq = w1 at *
  have hcp := hPq.cell
  have hsz1 := hKq.size
  go_wp2_with (first | (go_at_call 65; refine (bnext_any _ _ 0 _ _ _ hPq.bits (by omega)).mono ?_; rintro e w' ⟨rfl, rfl⟩))
  clear hc3q hclq hcp
  go_loopw [7, 8] (fun v i wr => ∃ (k m : Nat) (vv : Value), vv = v ∧ k ≤ xs.length ∧ i = .int .i64 (nextR xs k true) ∧ m = (startsTo p c xs k).length ∧ Hid (wr.ownsRow w1.heap.size 3 1 v m (ints (startsTo p c xs k))) ∧ Keep [] w1 wr) (fun _ i _ => mz xs.length (intOf i))
  case atStart => exact ⟨0, 0, _, rfl, by omega, rfl, rfl, World.ownsRow_nil _ _ _ _, Keep.refl _ _⟩
  case round =>
    obtain ⟨k, m, v, hvv, hk, hi, hm, HO, hK⟩ := hrel
    obtain ⟨w2, rfl⟩ : ∃ w2, w2 = wr := ⟨_, rfl⟩
    subst hvv
    have hP2 := hPq.keep hK (by simp) (by simp) (by simp)
    have hcp := hP2.cell
    have hml := startsTo_len p c xs k
    rcases nextR_spec xs true _ k rfl with ⟨h1, h2⟩ | ⟨j, h1, hkj, hjl, hjv, h2⟩
    · rw [h1] at hi
      subst hi
      have HE := (show Hid (startsTo p c xs xs.length = startsTo p c xs k) from by
        show _ = _
        have := startsTo_skip p c xs k (xs.length - k) (fun t a b => by simpa using h2 t a (by omega))
        rw [show k + (xs.length - k) = xs.length by omega] at this
        exact this)
      clear h1 h2
      have hbd : ∀ i : Nat, -9223372036854775808 ≤ (startsTo p c xs k)[i]?.getD 0 ∧ (startsTo p c xs k)[i]?.getD 0 ≤ 9223372036854775807 := getD_bd (fun x hx => by
        obtain ⟨i, hi, _, rfl⟩ := startsTo_mem p c xs k x hx
        rw [HS.out]
        have : i * s ≤ 32 * 32 := Nat.mul_le_mul (by omega) hz
        omega)
      obtain ⟨la, lc, rfl, hLA, hIA, hoffA, hlc⟩ := owned_form HO.out hbd
      have HG := (show Hid (GivesInts w w2 (.slice la (startsTo p c xs k).length lc) (startsTo p c xs k)) from ⟨la, lc, rfl, hIA, hlc, fun a e => by have := hoffA a e; omega⟩)
      have hKe := hKq.trans hK
      clear HO hbd hLA hIA hoffA hlc hK hKq
      go_wp2_with fail
      go_ret
      refine ⟨_, rfl, ?_, hKe⟩
      rw [HE.out]; exact HG.out
    · rw [h1] at hi
      subst hi
      have HE := (show Hid (startsTo p c xs (j + 1) = startsTo p c xs k ++ [((64 * p + j * s : Nat) : Int)]) from by
        show _ = _
        have := startsTo_skip p c xs k (j - k) (fun t a b => by simpa using h2 t a (by omega))
        rw [show k + (j - k) = j by omega] at this
        rw [startsTo_yes p c xs j hjv, this, HS.out])
      clear h1 h2 hjv
      obtain ⟨js, hjs⟩ : ∃ js : Nat, j * s = js := ⟨_, rfl⟩
      have hjs2 : js ≤ 32 * 32 := by rw [← hjs]; exact Nat.mul_le_mul (by omega) hz
      have hjs3 : (j : Int) * (s : Int) = js := by rw [← hjs]; exact (Int.natCast_mul j s).symm
      have hj0 : decide ((0 : Int) ≤ (j : Int)) = true := by rw [decide_eq_true_iff]; omega
      have hsum : (p : Int) * 64 + js = ((64 * p + js : Nat) : Int) := by omega
      rw [hjs] at HE
      obtain ⟨y, hy⟩ : ∃ y, 64 * p + js = y := ⟨_, rfl⟩
      rw [hy] at HE hsum
      have hyb : y ≤ 20000 := by omega
      have hw1 : IntKind.i64.wrap ((j : Int) * s) = js := by rw [hjs3]; exact IntWalk.i64_in _ (by omega)
      go_wp2_with (first | (go_at_call 64; refine (kwords_any q1 b g _ _ _ hP2).mono ?_; rintro e w' ⟨rfl, rfl⟩) | (at_builtin; refine append_ints rfl (.tmp 44) (.tmp 51) 46 rfl w1.heap.size 3 i0 Try.underlying46 hI.out _ m (startsTo p c xs k) [(y : Int)] rfl (HO.out.alloc _) (some ⟨w2.heap.size, 0, none⟩) 1 1 rfl rfl (IntsAt.single w2 3 y (by omega) (by omega)) (fun e => by cases e) (by omega) (by have := hK.size; simp; omega) ?_; intro v' w5 hown5 hgrow; have hK5 : Keep [] w1 w5 := (hK.trans (Keep.alloc [] _ _)).grown hgrow (own_block HO.out); have hP5 := hPq.keep hK5 (by simp) (by simp) (by simp); have hcp5 := hP5.cell) | (go_at_call 65; refine (bnext_any _ _ ((j : Int) + 1) _ _ _ hP5.bits (by omega)).mono ?_; rintro e w' ⟨rfl, rfl⟩))
      have HO5 := (show Hid (w5.ownsRow w1.heap.size 3 1 v' (startsTo p c xs (j + 1)).length (ints (startsTo p c xs (j + 1)))) from by
        show World.ownsRow _ _ _ _ _ _ _
        have : (startsTo p c xs (j + 1)).length = m + 1 := by rw [HE.out, List.length_append, ← hm]; rfl
        rw [this, HE.out]; exact hown5)
      clear hown5 hgrow HO
      go_roundw
      case rel => exact ⟨j + 1, _, _, rfl, by omega, rfl, rfl, HO5, hK5⟩
      case measure =>
        show mz xs.length (nextR xs (j + 1) true) < mz xs.length (j : Int)
        rcases nextR_spec xs true _ (j + 1) rfl with ⟨e1, _⟩ | ⟨l, e1, e2, e3, _⟩
        · rw [e1]; unfold mz; rw [if_pos (by omega), if_neg (by omega)]; omega
        · rw [e1]; unfold mz; rw [if_neg (by omega), if_neg (by omega)]; omega

set_option maxHeartbeats 1000000 in
theorem starts_big (sb p n gs gl k : Nat) (w : World) (hc2 : w.cell? ⟨sb, 2, none⟩ = some (.slice (some ⟨gs, 0, none⟩) n n)) (hc3 : w.cell? ⟨sb, 3, none⟩ = some (.slice (some ⟨gl, 0, none⟩) n n))
    (hcs : w.cell? ⟨gs, p, none⟩ = some (.pointer none)) (hcl : w.cell? ⟨gl, p, none⟩ = some (.int .i64 k)) (hp : p < n) (hn : n ≤ 256) (hk : 1 ≤ k) :
    Calls Try.prog 53 #[.pointer (some ⟨sb, 0, none⟩), .int .i64 p] w fun e w' => ∃ v, e = .returned v ∧ GivesInts w w' v [((64 * p : Nat) : Int)] ∧ Keep [] w w' := by
  have hk0 : decide ((0 : Int) < (k : Int)) = true := by rw [decide_eq_true_iff]; omega
  have hy : (p : Int) * 64 = ((64 * p : Nat) : Int) := by omega
  obtain ⟨y, hy2⟩ : ∃ y, 64 * p = y := ⟨_, rfl⟩
  rw [hy2] at hy ⊢
  have hyb : y ≤ 20000 := by omega
  clear hy2
  go_enter Try.func53, Try.ntmps53
  go_wp2
  go_quiet (fail)
  have hKq := Keep.drewN [] w nq
  have hc3q : (w.drewN nq).cell? ⟨sb, 3, none⟩ = some (.slice (some ⟨gl, 0, none⟩) n n) := hc3
  have hclq : (w.drewN nq).cell? ⟨gl, p, none⟩ = some (.int .i64 k) := hcl
  clear hc2 hc3 hcs hcl
  generalize w.drewN nq = w1 at *
  have hsz := hKq.size
  have HI := (show Hid (IntsAt (w1.alloc (.cells #[.int .i64 (y : Int)] 3)) (some ⟨w1.heap.size, 0, none⟩) [(y : Int)]) from IntsAt.single w1 3 y (by omega) (by omega))
  have HK := (show Hid (Keep [] w (w1.alloc (.cells #[.int .i64 (y : Int)] 3))) from hKq.trans (Keep.alloc [] _ _))
  go_wp2_with fail
  go_ret
  refine ⟨_, rfl, ⟨_, _, rfl, HI.out, ?_, ?_⟩, HK.out⟩
  · intro e; cases e
  · intro a e; cases e; exact hsz
set_option maxHeartbeats 1000000 in
theorem starts_none (sb p n gs gl : Nat) (w : World) (hc2 : w.cell? ⟨sb, 2, none⟩ = some (.slice (some ⟨gs, 0, none⟩) n n)) (hc3 : w.cell? ⟨sb, 3, none⟩ = some (.slice (some ⟨gl, 0, none⟩) n n))
    (hcs : w.cell? ⟨gs, p, none⟩ = some (.pointer none)) (hcl : w.cell? ⟨gl, p, none⟩ = some (.int .i64 0)) (hp : p < n) (hn : n ≤ 256) :
    Calls Try.prog 53 #[.pointer (some ⟨sb, 0, none⟩), .int .i64 p] w fun e w' => ∃ v, e = .returned v ∧ GivesInts w w' v [] ∧ Keep [] w w' := by
  go_enter Try.func53, Try.ntmps53
  go_wp2
  go_quiet (fail)
  have hKq := Keep.drewN [] w nq
  have hc3q : (w.drewN nq).cell? ⟨sb, 3, none⟩ = some (.slice (some ⟨gl, 0, none⟩) n n) := hc3
  have hclq : (w.drewN nq).cell? ⟨gl, p, none⟩ = some (.int .i64 0) := hcl
  clear hc2 hc3 hcs hcl
  generalize w.drewN nq = w1 at *
  go_wp2_with fail
  go_ret
  exact ⟨_, rfl, ⟨none, 0, rfl, IntsAt.nil _ _, fun _ => rfl, fun a e => by cases e⟩, hKq⟩
theorem starts_any (sb p : Nat) (L : Lay) (F : List Nat) (ws : List Int) (ts : List Bool) (kd : List PK) (w : World) (h : SpAt w sb L F ws ts kd) (hw : WF kd) (hp : p < kd.length) :
    Calls Try.prog 53 #[.pointer (some ⟨sb, 0, none⟩), .int .i64 p] w fun e w' => ∃ v, e = .returned v ∧ GivesInts w w' v (startsK p (kat kd p)) ∧ Keep [] w w' := by
  have hcs := h.cs hp
  have hcl := h.cl hp
  have h2 := hw.len2
  cases e : kat kd p with
  | small c xs =>
    obtain ⟨hc, hl, _⟩ := hw.small p c xs e
    obtain ⟨z1, z2, z3, z4, z5, z6, z7⟩ := sz_facts c hc
    have hP := h.page p c xs e
    rw [z1] at hP
    rw [e] at hcs hcl
    exact starts_small sb p kd.length L.gs L.gl _ _ _ c xs w h.c2 h.c3 hcs hcl hP hp h2 z4 (by omega)
  | part j k =>
    rw [e] at hcs hcl
    cases j with
    | zero => exact starts_big sb p kd.length L.gs L.gl k w h.c2 h.c3 hcs hcl hp h2 (by have := (hw.part p 0 k e).1; omega)
    | succ j => exact starts_none sb p kd.length L.gs L.gl w h.c2 h.c3 hcs hcl hp h2
  | zero => rw [e] at hcs hcl; exact starts_none sb p kd.length L.gs L.gl w h.c2 h.c3 hcs hcl hp h2
  | free => rw [e] at hcs hcl; exact starts_none sb p kd.length L.gs L.gl w h.c2 h.c3 hcs hcl hp h2

set_option maxHeartbeats 2000000 in
theorem each_at (sb : Nat) (L : Lay) (F : List Nat) (ws : List Int) (ts : List Bool) (kd : List PK) (w : World) (h : SpAt w sb L F ws ts kd) (hw : WF kd) :
    Calls Try.prog 34 #[.pointer (some ⟨sb, 0, none⟩)] w fun e w' => ∃ v, e = .returned v ∧ GivesInts w w' v (eachK kd) ∧ Keep [] w w' := by
  obtain ⟨i0, hi, hz0, hz1, hz2⟩ := info_parts Try.infoInt
  have hI : Hid (Try.prog.info? 3 = some i0 ∧ i0.zero = some (.int .i64 0) ∧ i0.size = 1 ∧ i0.bytes = 8) := ⟨hi, hz0, hz1, hz2⟩
  clear hi hz0 hz1 hz2
  have hc3 := h.c3
  obtain ⟨n, hn⟩ : ∃ n, kd.length = n := ⟨_, rfl⟩
  have HN := (show Hid (kd.length = n) from hn)
  have hn2 : n ≤ 256 := by rw [← hn]; exact hw.len2
  rw [hn] at hc3
  have HW := (show Hid (WF kd) from hw)
  have HS := (show Hid (SpAt w sb L F ws ts kd) from h)
  clear hn hw h
  go_enter Try.func34, Try.ntmps34
  go_wp2_with fail
  go_loopw [3, 12] (fun v i wr => ∃ (j m : Nat) (vv : Value), vv = v ∧ j ≤ n ∧ i = .int .i64 j ∧ m = (eachTo kd j).length ∧ Hid (wr.ownsRow w.heap.size 3 1 v m (ints (eachTo kd j))) ∧ Keep [] w wr) (fun _ i _ => n - (intOf i).toNat)
  case atStart => exact ⟨0, 0, _, rfl, by omega, rfl, rfl, World.ownsRow_nil _ _ _ _, Keep.refl _ _⟩
  case round =>
    obtain ⟨j, m, v, hvv, hj, rfl, hm, HO, hK⟩ := hrel
    obtain ⟨w2, rfl⟩ : ∃ w2, w2 = wr := ⟨_, rfl⟩
    subst hvv
    by_cases hlt : j < n
    · have hS2 := HS.out.keep0 hK
      have hm2 : m ≤ 32 * 256 := by have := HW.out.each_len j; omega
      have HB := (show Hid (∀ i : Nat, -9223372036854775808 ≤ (startsK j (kat kd j))[i]?.getD 0 ∧ (startsK j (kat kd j))[i]?.getD 0 ≤ 9223372036854775807) from HW.out.starts_bd j)
      have HL := (show Hid ((startsK j (kat kd j)).length ≤ 32) from HW.out.starts_len j)
      have HE := (show Hid (eachTo kd (j + 1) = eachTo kd j ++ startsK j (kat kd j)) from eachTo_succ kd j)
      go_wp2_with fail
      refine (starts_any sb j L F ws ts kd w2 hS2 HW.out (by rw [HN.out]; exact hlt)).mono ?_
      clear hS2
      generalize startsK j (kat kd j) = M at *
      rintro e w3 ⟨v3, rfl, ⟨la, lc, rfl, hI3, hlc, hoff⟩, hK3⟩
      have HI3 := (show Hid (IntsAt w3 la M) from hI3)
      have HLC := (show Hid (la = none → lc = 0) from hlc)
      have HO3 := (show Hid (w3.ownsRow w.heap.size 3 1 v m (ints (eachTo kd j))) from own_keep6 HO.out hK3)
      have hK4 := hK.trans hK3
      have hsz := hK4.size
      obtain ⟨ml, hml⟩ : ∃ ml, M.length = ml := ⟨_, rfl⟩
      have HML := (show Hid (M.length = ml) from hml)
      have hml2 : ml ≤ 32 := by rw [← hml]; exact HL.out
      rw [hml]
      clear hI3 hlc hoff hK hK3 HO hml
      go_wp2_with (at_builtin; refine append_ints rfl (.tmp 15) (.tmp 18) 46 rfl w.heap.size 3 i0 Try.underlying46 hI.out _ m (eachTo kd j) M rfl HO3.out la ml lc HML.out rfl HI3.out HLC.out (by omega) (by omega) ?_; intro v' w5 hown5 hgrow)
      have HO5 := (show Hid (w5.ownsRow w.heap.size 3 1 v' (eachTo kd (j + 1)).length (ints (eachTo kd (j + 1)))) from by
        show World.ownsRow _ _ _ _ _ _ _
        have : (eachTo kd (j + 1)).length = m + ml := by rw [HE.out, List.length_append, ← hm, HML.out]
        rw [this, HE.out]; exact hown5)
      have hK5 : Keep [] w w5 := hK4.grown hgrow (own_block HO3.out)
      clear hown5 hgrow HO3 hK4 HE
      go_wp2_with fail
      go_roundw
      case rel => exact ⟨j + 1, _, _, rfl, by omega, by go_num, rfl, HO5, hK5⟩
      case measure => simp [intOf]; omega
    · obtain rfl : j = n := by omega
      have hE : eachTo kd j = eachK kd := by unfold eachK; rw [HN.out]
      have hO := HO.out
      rw [hE] at hO
      obtain ⟨la, lc, rfl, hLA, hIA, hoffA, hlc⟩ := owned_form hO (by unfold eachK; exact HW.out.each_bd _)
      have HG := (show Hid (GivesInts w w2 (.slice la (eachK kd).length lc) (eachK kd)) from ⟨la, lc, rfl, hIA, hlc, hoffA⟩)
      clear hO HO hLA hIA hoffA hlc hE
      go_wp2_with fail
      go_ret
      exact ⟨_, rfl, HG.out, hK⟩
/-- Each, of any space. -/
theorem seach_any (sb : Nat) (F : List Nat) (ws : List Int) (kd : List PK) (w : World) (h : IsSpace w sb F ws kd) (hw : WF kd) :
    Calls Try.prog 34 #[.pointer (some ⟨sb, 0, none⟩)] w fun e w' => ∃ v, e = .returned v ∧ GivesInts w w' v (eachK kd) ∧ Keep [] w w' := by
  obtain ⟨L, h⟩ := h; exact each_at sb L F ws _ kd w h hw
set_option maxHeartbeats 400000 in
theorem seach_nil (w : World) :
    Calls Try.prog 34 #[.pointer none] w fun e w' => e = .returned (.slice none 0 0) ∧ w = w' := by
  go_enter Try.func34, Try.ntmps34
  go_wp2
  go_ret
  exact ⟨rfl, rfl⟩

/-- How many words the block at a has. -/
def wordsAt (kd : List PK) (a : Int) : Int := ((findI kd a).map (fun o => (o.2 : Int))).getD 0
def usedTo (kd : List PK) (j : Nat) : Int := (((eachK kd).take j).map (wordsAt kd)).sum
/-- The words of all blocks. -/
def usedK (kd : List PK) : Int := ((eachK kd).map (wordsAt kd)).sum
theorem usedTo_succ (kd : List PK) (j : Nat) (h : j < (eachK kd).length) : usedTo kd (j + 1) = usedTo kd j + wordsAt kd ((eachK kd)[j]?.getD 0) := by
  unfold usedTo; rw [take_snoc _ _ h, List.map_append, List.sum_append]; simp
theorem wordsAt_bd {kd : List PK} (h : WF kd) (a : Int) : 0 ≤ wordsAt kd a ∧ wordsAt kd a ≤ 1024 := by
  unfold wordsAt findI
  split
  · simp
  · cases e : findN kd a.toNat with
    | none => simp
    | some o =>
      obtain ⟨s, n⟩ := o
      have := (h.found e).2.2.2.2.1
      simp; omega
theorem usedTo_bd {kd : List PK} (h : WF kd) (j : Nat) (hj : j ≤ (eachK kd).length) : 0 ≤ usedTo kd j ∧ usedTo kd j ≤ 1024 * j := by
  induction j with
  | zero => simp [usedTo]
  | succ j ih =>
    rw [usedTo_succ kd j hj]
    have := ih (by omega)
    have := wordsAt_bd h ((eachK kd)[j]?.getD 0)
    omega

end Go.Proofs.Ytdpaffnpedcmpab
