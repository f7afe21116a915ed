/-
  The program's heap beside the document's own: what is asked of both; addresses by place.
-/
import Derived.Test.YtgpidokklhjfdaaGreatRHeapObjs
namespace Go.Proofs.YtgpidokklhjfdaaGreat
open Go.RowKit

/-- An address, or a place among objects. -/
def addrI (kd : List PK) (a : Int) : Int := if 0 < (eachK kd).length ∧ 0 ≤ a ∧ a < 64 then (eachK kd)[a.toNat % (eachK kd).length]?.getD 0 else a
theorem addrI_in {kd : List PK} (h : WF kd) (a : Int) (ha : inI a) : inI (addrI kd a) := by
  unfold addrI
  split
  · have := h.each_bd kd.length (a.toNat % (eachK kd).length)
    exact this
  · exact ha
section
variable {w0 : World} {F0 : List Nat} {mb : Nat} {ws : List Int} {kd : List PK} {ds : List (Int × List Int)}
end

/-! ### What is asked through the heaps, told where their parts lie -/
section
variable {w0 : World} {F0 : List Nat} {hb : Nat} {ws : List Int} {kd : List PK} {ds : List (Int × List Int)}
theorem oadd2 (tb : Nat) (f : Int) (ao : Option Addr) (n c : Nat) (L : List Int) (w : World) (h : Has w0 F0 (heapA hb ws kd ds) w) (ht : w.cell? ⟨hb, 1, none⟩ = some (.pointer (some ⟨tb, 0, none⟩))) (hA : IntsAt w ao L) (hc : ao = none → c = 0) (hn : L.length = n) (hbd : n ≤ 1000000) :
    Calls Tryz.prog 51 #[.pointer (some ⟨tb, 0, none⟩), .agg #[.int .i64 f, .slice ao n c]] w fun e w' => (e = .returned (.tuple #[.int .i64 (addN ds f L), .int .i64 (addE ds f L)]) ∧ w'.cell? ⟨hb, 1, none⟩ = some (.pointer (some ⟨tb, 0, none⟩))) ∧ Has w0 F0 (heapA hb ws kd (addR ds f L)) w' := by
  obtain ⟨sb, tb', hr⟩ := h.raw
  have e := hr.cells.2.1
  rw [ht] at e
  obtain rfl := ptr_eq e
  refine (xadd w f ao n c L hr hA hc hn hbd).mono ?_
  rintro e w' ⟨rfl, hX⟩
  exact ⟨⟨rfl, hX.cells.2.1⟩, hX.heap (h.fine.add f L)⟩
theorem Has.rptr {w : World} (h : Has w0 F0 (rheapA hb ws kd ds) w) : ∃ mb, w.cell? ⟨hb, 0, none⟩ = some (.pointer (some ⟨mb, 0, none⟩)) := by
  obtain ⟨mb, hr⟩ := h.rraw
  exact ⟨mb, hr.rcells.1⟩
end
theorem refsT_len {w0 w : World} {F0 : List Nat} {hb : Nat} {ws : List Int} {kd : List PK} {ds : List (Int × List Int)} {a : Int} {L : List Int} (h : Has w0 F0 (heapA hb ws kd ds) w) (hT : RefsT kd ws ds a L) : L.length ≤ 1000000 := by
  cases hT with
  | none _ => simp
  | data _ _ _ _ _ _ => simp
  | ref _ _ _ _ _ _ => simp
  | refs b m c l f hA => rw [upL_length]; have := hA.2.2.bd; omega
  | plain b m i c l f L hA e hi =>
    obtain ⟨sb, tb, hr⟩ := h.raw
    obtain ⟨F, va, vc, cs, hT, rfl⟩ := hr.tab
    rw [List.getElem?_map] at hi
    cases hc : cs[i]? with
    | none => rw [hc] at hi; cases hi
    | some v =>
      rw [hc] at hi
      simp [CV.d] at hi
      rw [← hi.2]
      exact (hT.each i v hc).2.2.1
theorem objs_ok {ws : List Int} {kd : List PK} {ds : List (Int × List Int)} {vs : List OV} (h : Fine ws kd ds) (hv : vs.map OV.o = objsK kd ws) : ∀ v, v ∈ vs → (∀ i : Nat, inI (v.o.L[i]?.getD 0)) ∧ v.o.L.length ≤ 1000000 := by
  intro v hm
  have h1 : v.o ∈ objsK kd ws := by rw [← hv]; exact List.mem_map_of_mem hm
  unfold objsK at h1
  rw [List.mem_map] at h1
  obtain ⟨a, ha, e⟩ := h1
  obtain ⟨b, n, rfl, _, _, hf⟩ := h.wf.each_in kd.length a ha
  obtain ⟨k, c, l, f, w1, w2, _⟩ := h.ob.head b n hf
  obtain ⟨_, _, p1, p2, p3, p4⟩ := w1.parts
  have hb := w1.bd
  rw [← e]
  unfold objOf
  simp only [Int.toNat_natCast]
  refine ⟨wordsL_bd h.ob.bd _ _, ?_⟩
  rw [wordsL_length, p3]
  omega
theorem duo_raw {w0 w : World} {F0 : List Nat} {hb mb : Nat} {ws us : List Int} {kd jd : List PK} {ds es : List (Int × List Int)} {B : Asn} (h : Has w0 F0 (((heapA hb ws kd ds).star (rheapA mb us jd es)).star B) w) : ∃ sb tb sm, Has w0 F0 (((rawA hb sb tb ws kd ds).star (rrawA mb sm us jd es)).star B) w := by
  obtain ⟨F, ⟨F1, F2, hF, ⟨F3, F4, hF', ⟨⟨sb, tb, h1⟩, _⟩, ⟨⟨sm, h2⟩, _⟩, hd'⟩, h3, hd⟩, u⟩ := h
  exact ⟨sb, tb, sm, F, ⟨F1, F2, hF, ⟨F3, F4, hF', h1, h2, hd'⟩, h3, hd⟩, u⟩
theorem duo_heap {w0 w : World} {F0 : List Nat} {hb mb sb tb sm : Nat} {ws : List Int} {kd : List PK} {ds : List (Int × List Int)} {B : Asn} (h : Has w0 F0 (((rawA hb sb tb ws kd ds).star (rrawA mb sm ws kd ds)).star B) w) (hf : Fine ws kd ds) : Has w0 F0 (((heapA hb ws kd ds).star (rheapA mb ws kd ds)).star B) w := by
  obtain ⟨F, ⟨F1, F2, hF, ⟨F3, F4, hF', h1, h2, hd'⟩, h3, hd⟩, u⟩ := h
  exact ⟨F, ⟨F1, F2, hF, ⟨F3, F4, hF', ⟨⟨sb, tb, h1⟩, hf⟩, ⟨⟨sm, h2⟩, hf⟩, hd'⟩, h3, hd⟩, u⟩
theorem ten_cells {w : World} {b : Nat} {t : TypeId} {a0 a1 a2 a3 a4 a5 a6 a7 a8 a9 : Value} (h : w.heap[b]? = some (.cells #[a0, a1, a2, a3, a4, a5, a6, a7, a8, a9] t (0, 0))) :
    w.cell? ⟨b, 0, none⟩ = some a0 ∧ w.cell? ⟨b, 1, none⟩ = some a1 ∧ w.cell? ⟨b, 2, none⟩ = some a2 ∧ w.cell? ⟨b, 3, none⟩ = some a3 ∧ w.cell? ⟨b, 4, none⟩ = some a4 ∧ w.cell? ⟨b, 5, none⟩ = some a5 ∧ w.cell? ⟨b, 6, none⟩ = some a6 ∧ w.cell? ⟨b, 7, none⟩ = some a7 ∧ w.cell? ⟨b, 8, none⟩ = some a8 ∧ w.cell? ⟨b, 9, none⟩ = some a9 := by
  refine ⟨?_, ?_, ?_, ?_, ?_, ?_, ?_, ?_, ?_, ?_⟩ <;> simp [World.cell?, h]

/-- Something asked of a heap, in memory. -/
structure AV where
  d : Int
  k : Int
  c : Int
  l : Int
  f : Bool
  cf : Int
  ca : Option Addr
  cc : Nat
  cL : List Int
  a : Int
  i : Int
  x : Int
def AV.cells (v : AV) : List Value := [.int .i64 v.d, .int .i64 v.k, .int .i64 v.c, .int .i64 v.l, .bool v.f, .int .i64 v.cf, .slice v.ca v.cL.length v.cc, .int .i64 v.a, .int .i64 v.i, .int .i64 v.x]
structure AV.ok (w : World) (v : AV) : Prop where
  d : inI v.d
  k : inI v.k
  c : inI v.c
  l : inI v.l
  cf : inI v.cf
  a : inI v.a
  i : inI v.i
  x : inI v.x
  cap : v.ca = none → v.cc = 0
  ints : IntsAt w v.ca v.cL
/-- A list of what is asked: n in all, the first N of it are met. -/
structure AskAt (w : World) (ao : Option Addr) (n N : Nat) (A : Nat → AV) : Prop where
  cells : 0 < N → ∃ b off, ao = some ⟨b, off, none⟩ ∧ b < w.heap.size ∧ ∀ i t, i < N → t < 10 → w.cell? ⟨b, off + (i * 10 + t), none⟩ = (A i).cells[t]?
  ok : ∀ i, i < N → (A i).ok w ∧ (A i).cL.length ≤ 1000000
  few : N ≤ n ∧ N ≤ 60 ∧ (N = n ∨ N = 60)

end Go.Proofs.YtgpidokklhjfdaaGreat
