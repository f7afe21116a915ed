/-
  How many words all blocks have: page by page, and what Alloc adds. Plain mathematics.
-/
import Derived.Test.YtdpaffnpedcmpaaSpaceEach
import Derived.Test.YtdpaffnpedcmpaaSpaceM2
namespace Go.Proofs.Ytdpaffnpedcmpaa
open Go.RowKit

/-- The words of the blocks that begin in a page. -/
def PK.used : PK → Int
  | .small c xs => (sz c : Int) * cntA xs
  | .part 0 k => 64 * (k : Int)
  | _ => 0
theorem startsTo_cnt (p c : Nat) (xs : List Bool) (j : Nat) (h : j ≤ xs.length) : (startsTo p c xs j).length = cnt xs j := by
  induction j with
  | zero => simp [startsTo, cnt_zero]
  | succ j ih =>
    rw [cnt_step xs j (by omega), ← ih (by omega)]
    cases e : xs[j]?.getD false
    · rw [startsTo_no p c xs j e]; simp
    · rw [startsTo_yes p c xs j e]; simp
theorem sum_const (L : List Int) (f : Int → Int) (v : Int) (h : ∀ x ∈ L, f x = v) : (L.map f).sum = v * L.length := by
  induction L with
  | nil => simp
  | cons a L ih =>
    rw [List.map_cons, List.sum_cons, ih (fun x hx => h x (List.mem_cons_of_mem _ hx)), h a (List.mem_cons_self ..), List.length_cons]
    rw [Int.natCast_add, Int.mul_add]; omega
theorem starts_used {kd : List PK} (h : WF kd) (p : Nat) : ((startsK p (kat kd p)).map (wordsAt kd)).sum = (kat kd p).used := by
  have wd : ∀ x ∈ startsK p (kat kd p), ∃ n : Nat, wordsAt kd x = n ∧ (∀ c xs, kat kd p = .small c xs → n = sz c) ∧ (∀ k, kat kd p = .part 0 k → n = 64 * k) := by
    intro x hx
    obtain ⟨a, n, rfl, _, _, hf, h1, h2⟩ := h.starts_in p x hx
    refine ⟨n, ?_, h1, h2⟩
    unfold wordsAt findI
    rw [if_neg (by omega), Int.toNat_natCast, hf]; rfl
  cases e : kat kd p with
  | small c xs =>
    rw [e] at wd
    have : (startsK p (PK.small c xs)).length = cntA xs := startsTo_cnt p c xs xs.length (Nat.le_refl _)
    rw [sum_const _ _ (sz c : Int) (fun x hx => by obtain ⟨n, h1, h2, _⟩ := wd x hx; rw [h1, h2 c xs rfl]), this]; rfl
  | part j k =>
    rw [e] at wd
    cases j with
    | zero =>
      rw [sum_const _ _ ((64 * k : Nat) : Int) (fun x hx => by obtain ⟨n, h1, _, h2⟩ := wd x hx; rw [h1, h2 k rfl])]
      show ((64 * k : Nat) : Int) * ((1 : Nat) : Int) = 64 * (k : Int)
      omega
    | succ j => rfl
  | zero => rfl
  | free => rfl
theorem each_used {kd : List PK} (h : WF kd) (m : Nat) (hm : m ≤ kd.length) : ((eachTo kd m).map (wordsAt kd)).sum = ((kd.take m).map PK.used).sum := by
  induction m with
  | zero => simp [eachTo]
  | succ m ih =>
    rw [eachTo_succ, List.map_append, List.sum_append, ih (by omega), starts_used h, List.take_succ_eq_append_getElem (by omega), List.map_append, List.sum_append]
    have : kd[m] = kat kd m := by unfold kat; simp [show m < kd.length by omega]
    simp [this]
theorem used_sum {kd : List PK} (h : WF kd) : usedK kd = (kd.map PK.used).sum := by
  have := each_used h kd.length (Nat.le_refl _)
  rw [List.take_of_length_le (Nat.le_refl _)] at this
  exact this
theorem sum_set (L : List Int) (p : Nat) (x : Int) (h : p < L.length) : (L.set p x).sum = L.sum - L[p]?.getD 0 + x := by
  induction L generalizing p with
  | nil => simp at h
  | cons a L ih =>
    cases p with
    | zero => simp; omega
    | succ p => simp only [List.set_cons_succ, List.sum_cons]; rw [ih p (by simpa using h)]; simp; omega
theorem used_get (kd : List PK) (p : Nat) : (kd.map PK.used)[p]?.getD 0 = (kat kd p).used := by
  unfold kat
  rcases Nat.lt_or_ge p kd.length with h | h
  · simp [h]
  · rw [List.getElem?_eq_none (by simpa using h), List.getElem?_eq_none h]; rfl
theorem used_set {kd : List PK} {p : Nat} (x : PK) (h : p < kd.length) : ((kd.set p x).map PK.used).sum = (kd.map PK.used).sum - (kat kd p).used + x.used := by
  rw [List.map_set, sum_set _ _ _ (by simpa using h), used_get]
theorem used_put (kd : List PK) (p k : Nat) (hk : 1 ≤ k) (h : Clear (takenL kd) p k) : ((putParts kd p k).map PK.used).sum = (kd.map PK.used).sum + 64 * k := by
  obtain ⟨hl, hf⟩ := clear_free h
  have e : (putParts kd p k).map PK.used = (kd.map PK.used).set p (64 * (k : Int)) := by
    refine eq_of_getD (by simp [putParts]) (fun t => ?_)
    rw [used_get, putParts_at _ _ _ _ hl]
    by_cases e : t = p
    · subst e; rw [if_pos (by omega), set_get_same _ _ _ (by simp; omega), Nat.sub_self]; rfl
    · rw [set_get_other _ _ _ _ (fun e' => e e'.symm), used_get]
      by_cases e2 : p ≤ t ∧ t < p + k
      · rw [if_pos e2, hf t e2.1 e2.2]
        obtain ⟨m, hm⟩ : ∃ m, t - p = m + 1 := ⟨t - p - 1, by omega⟩
        rw [hm]; rfl
      · rw [if_neg e2]
  rw [e, sum_set _ _ _ (by simp; omega), used_get, hf p (by omega) (by omega)]
  show (kd.map PK.used).sum - 0 + 64 * (k : Int) = _
  omega
/-- Alloc adds the block's words. -/
theorem AllocR.used {kd kd' : List PK} {n : Int} {a : Nat} (h : WF kd) (hr : AllocR kd n (some (a, kd'))) : usedK kd' = usedK kd + blockI n := by
  obtain ⟨b, hb, _, hw', _⟩ := hr.spec h
  rw [used_sum h, used_sum hw']
  cases hr with
  | old c p i xs h1 h2 h3 h4 h5 =>
    have hp := kat_lt kd p (by rw [h3]; simp)
    have hc := (h.small p c xs h3).1
    have hi : xs[i]?.getD false = false := by
      rcases nextR_spec xs false _ 0 rfl with ⟨e, _⟩ | ⟨j, e, _, _, e3, _⟩
      · rw [h4] at e; omega
      · obtain rfl : i = j := by rw [h4] at e; omega
        exact e3
    have hcs := cntA_set xs i h5
    rw [hi] at hcs
    have hcs' : cntA (xs.set i true) = cntA xs + 1 := by simpa using hcs
    rw [used_set _ hp, h3, block_class n c h1]
    have hz := (sz_facts c hc).1
    unfold wordsOf at hz
    rw [hz]
    show _ - (sz c : Int) * (cntA xs : Nat) + (sz c : Int) * (cntA (xs.set i true) : Nat) = _
    rw [hcs', Int.natCast_add, Int.mul_add]; omega
  | new c p h1 h2 h3 =>
    obtain ⟨c', hc', hc5⟩ : ∃ j : Nat, classI n = j ∧ j < 5 := by
      rcases class_lt n with e | e
      · rw [h1] at e; omega
      · exact e
    obtain rfl : c = c' := by rw [h1] at hc'; omega
    obtain ⟨hpl, hf⟩ := clear_free (run_clear (by omega) h3)
    have hz := (sz_facts c hc5).1
    have hm := (sz_facts c hc5).2.2.2.2.1
    have hcs := cntA_set (offs (roomOf c)) 0 (by rw [offs_length]; omega)
    rw [offs_get] at hcs
    have hcs' : cntA ((offs (roomOf c)).set 0 true) = 1 := by rw [cntA_offs] at hcs; simpa using hcs
    rw [used_set _ (by omega), hf p (by omega) (by omega), block_class n c h1]
    unfold wordsOf at hz
    rw [hz]
    show _ - 0 + (sz c : Int) * (cntA ((offs (roomOf c)).set 0 true) : Nat) = _
    rw [hcs']; omega
  | large k p h1 h2 h3 h4 =>
    rw [used_put kd p k h3 (run_clear h3 h4), block_none n h1, h2]; omega

end Go.Proofs.Ytdpaffnpedcmpaa
