/-
  The calls of QueueRuns, on both sides at once.
-/
import Derived.Test.YtdpkmebckholnaaGreatPart9
import Derived.Test.YtdpkmebckholnaaGreatOpens
namespace Go.Proofs.YtdpkmebckholnaaGreat
open Go.RowKit

/-- What Open comes to, on both sides. -/
inductive OpenT (Ls : List (List Int)) : Int → Int → List (List Int) → Prop
  | yes : Ls.length < 8 → OpenT Ls (Ls.length : Int) 0 (Ls ++ [[]])
  | full : 8 ≤ Ls.length → OpenT Ls 0 3 Ls
theorem openT_ex (Ls : List (List Int)) : ∃ N E Ls', OpenT Ls N E Ls' := by
  by_cases h : Ls.length < 8
  · exact ⟨_, _, _, .yes h⟩
  · exact ⟨_, _, _, .full (by omega)⟩
theorem OpenT.bo {kd : List PK} {ws : List Int} {Ls Ls' : List (List Int)} {I : List Int} {t : Nat} {N E : Int} (h : OpenT Ls N E Ls') (b : Bo kd ws Ls I t) : Bo kd ws Ls' I t := by
  cases h with
  | yes _ => exact b.opened
  | full _ => exact b
theorem OpenT.num {Ls Ls' : List (List Int)} {N E : Int} (h : OpenT Ls N E Ls') : (0 ≤ N ∧ N ≤ 8) ∧ (E = 0 ∨ E = 3) := by
  cases h with
  | yes h => exact ⟨by omega, .inl rfl⟩
  | full _ => exact ⟨by omega, .inr rfl⟩
theorem Bo.up {kd : List PK} {ws : List Int} {Ls : List (List Int)} {I : List Int} {t : Nat} (h : Bo kd ws Ls I t) : Bo kd ws Ls I (t + 1) :=
  ⟨h.fine, h.inn, h.ref, h.once, by have := h.few; omega, fun L hL => by have := h.rows L hL; omega⟩
theorem Bo.inR {kd : List PK} {ws : List Int} {Ls : List (List Int)} {I : List Int} {t : Nat} (h : Bo kd ws Ls I t) : inR I := by
  intro i
  rcases Nat.lt_or_ge i I.length with hi | hi
  · obtain ⟨a, e, hR⟩ := h.ref I[i] (List.getElem_mem hi)
    have := hR.inI h.fine
    rw [List.getElem?_eq_getElem hi, e]
    exact this
  · rw [List.getElem?_eq_none hi]; simp

section
variable {w0 : World} {F0 : List Nat} {qb hb rb mb : Nat} {S : Int} {ws ws' : List Int} {kd : List PK} {Ls Ls' : List (List Int)} {i x E N : Int} {C D : Asn}
theorem dqopen (w : World) (h : Has w0 F0 (((queueA qb hb ws kd [] Ls).star C).star D) w) (hT : OpenT Ls N E Ls') :
    Calls Tryz.prog 7 #[.pointer (some ⟨qb, 0, none⟩)] w fun e w' => e = .returned (.tuple #[.int .i64 N, .int .i64 E]) ∧ Has w0 F0 (((queueA qb hb ws kd [] Ls').star C).star D) w' := by
  refine has_left h (fun _ h => has_left h (fun _ h => ?_))
  cases hT with
  | yes hf => exact qopen_yes w h hf
  | full hf =>
    refine (qopen_full w h hf).mono ?_
    rintro e w' ⟨rfl, rfl⟩
    exact ⟨rfl, h⟩
theorem dfopen (w : World) (h : Has w0 F0 (refsA rb mb S ws kd [] Ls) w) (hT : OpenT Ls N E Ls') :
    Calls Tryz.prog 8 #[.pointer (some ⟨rb, 0, none⟩)] w fun e w' => e = .returned (.agg #[.int .i64 N, .int .i64 E]) ∧ Has w0 F0 (refsA rb mb S ws kd [] Ls') w' := by
  cases hT with
  | yes hf => exact fopen_yes w h hf
  | full hf =>
    refine (fopen_full w h hf).mono ?_
    rintro e w' ⟨rfl, hK⟩
    exact ⟨rfl, h.keep0 hK⟩
/-- Both sides, each as it stands. -/
def D2 (qb hb rb mb : Nat) (kd : List PK) (ws ws2 : List Int) (Ls Ls2 : List (List Int)) (lb lo : Nat) (A : Nat → Nat) (la : Option Addr) (q c : Nat) (I : List Int) : Asn :=
  (((queueA qb hb ws kd [] Ls).star (refsA rb mb 0 ws2 kd [] Ls2)).star (listA (some ⟨lb, lo, none⟩) (aL A 12))).star (ownA 3 la q c I)
variable {ws2 ws2' : List Int} {Ls2 Ls2' : List (List Int)} {lb lo : Nat} {A : Nat → Nat} {la : Option Addr} {q c : Nat} {I : List Int}
theorem eopenq (w : World) (h : Has w0 F0 (D2 qb hb rb mb kd ws ws2 Ls Ls2 lb lo A la q c I) w) (hT : OpenT Ls N E Ls') :
    Calls Tryz.prog 7 #[.pointer (some ⟨qb, 0, none⟩)] w fun e w' => e = .returned (.tuple #[.int .i64 N, .int .i64 E]) ∧ Has w0 F0 (D2 qb hb rb mb kd ws ws2 Ls' Ls2 lb lo A la q c I) w' :=
  has_left h (fun _ h => dqopen w h hT)
theorem eopenf (w : World) (h : Has w0 F0 (D2 qb hb rb mb kd ws ws2 Ls Ls2 lb lo A la q c I) w) (hT : OpenT Ls2 N E Ls2') :
    Calls Tryz.prog 8 #[.pointer (some ⟨rb, 0, none⟩)] w fun e w' => e = .returned (.agg #[.int .i64 N, .int .i64 E]) ∧ Has w0 F0 (D2 qb hb rb mb kd ws ws2 Ls Ls2' lb lo A la q c I) w' :=
  has_d2 h (fun _ h => dfopen w h hT)
theorem epushq (w : World) (h : Has w0 F0 (D2 qb hb rb mb kd ws ws2 Ls Ls2 lb lo A la q c I) w) (hT : PushT kd ws Ls i x E ws' Ls') (hx : inI x) (hl : ∀ L, L ∈ Ls → L.length < 999999) :
    Calls Tryz.prog 12 #[.pointer (some ⟨qb, 0, none⟩), .int .i64 i, .int .i64 x] w fun e w' => e = .returned (.int .i64 E) ∧ Has w0 F0 (D2 qb hb rb mb kd ws' ws2 Ls' Ls2 lb lo A la q c I) w' :=
  has_d1 h (fun _ h => qpush i x E ws' Ls' w h hT hx hl)
theorem epushf (w : World) (h : Has w0 F0 (D2 qb hb rb mb kd ws ws2 Ls Ls2 lb lo A la q c I) w) (hT : StepP kd ws2 Ls2 i x E ws2' Ls2') :
    Calls Tryz.prog 11 #[.pointer (some ⟨rb, 0, none⟩), .int .i64 i, .int .i64 x] w fun e w' => e = .returned (.int .i64 E) ∧ Has w0 F0 (D2 qb hb rb mb kd ws ws2' Ls Ls2' lb lo A la q c I) w' :=
  has_d2 h (fun _ h => fpush w h hT)
theorem epollq (w : World) (h : Has w0 F0 (D2 qb hb rb mb kd ws ws2 Ls Ls2 lb lo A la q c I) w) (hT : PollT kd ws Ls i N E ws' Ls') :
    Calls Tryz.prog 13 #[.pointer (some ⟨qb, 0, none⟩), .int .i64 i] w fun e w' => e = .returned (.tuple #[.int .i64 N, .int .i64 E]) ∧ Has w0 F0 (D2 qb hb rb mb kd ws' ws2 Ls' Ls2 lb lo A la q c I) w' :=
  has_d1 h (fun _ h => qpoll i N E ws' Ls' w h hT)
theorem epollf (w : World) (h : Has w0 F0 (D2 qb hb rb mb kd ws ws2 Ls Ls2 lb lo A la q c I) w) (hT : StepO kd ws2 Ls2 i N E ws2' Ls2') :
    Calls Tryz.prog 14 #[.pointer (some ⟨rb, 0, none⟩), .int .i64 i] w fun e w' => e = .returned (.agg #[.int .i64 N, .int .i64 E]) ∧ Has w0 F0 (D2 qb hb rb mb kd ws ws2' Ls Ls2' lb lo A la q c I) w' :=
  has_d2 h (fun _ h => fpoll w h hT)
theorem Has.dd {w : World} (h : Has w0 F0 (DD qb hb rb mb kd ws Ls lb lo A la q c I) w) : Has w0 F0 (D2 qb hb rb mb kd ws ws Ls Ls lb lo A la q c I) w := h
theorem Has.d2 {w : World} (h : Has w0 F0 (D2 qb hb rb mb kd ws ws Ls Ls lb lo A la q c I) w) : Has w0 F0 (DD qb hb rb mb kd ws Ls lb lo A la q c I) w := h
theorem equeues {n : Nat} (w : World) (h : Has w0 F0 (DD qb hb rb mb kd ws Ls lb lo A la q c I) w) (hn : Ls.length = n) :
    Calls Tryz.prog 15 #[.pointer (some ⟨qb, 0, none⟩)] w fun e w' => e = .returned (.int .i64 n) ∧ w' = w := by
  subst hn
  exact (qqueues w h.fst.fst.fst).mono (fun e w' h => ⟨h.1, h.2.symm⟩)
theorem Has.drows {n : Nat} {w : World} (h : Has w0 F0 (DD qb hb rb mb kd ws Ls lb lo A la q c I) w) (hn : Ls.length = n) : ∃ va vc, w.cell? ⟨rb, 1, none⟩ = some (.slice va n vc) := by
  subst hn
  obtain ⟨va, vc, hr⟩ := h.fst.fst.snd.fraw
  exact ⟨va, vc, hr.fcells.2.1⟩
theorem Has.drow {n j : Nat} {L : List Int} {w : World} (h : Has w0 F0 (DD qb hb rb mb kd ws Ls lb lo A la q c I) w) (hn : Ls.length = n) (hL : Ls[j]? = some L) : ∃ bb vc lq cc, w.cell? ⟨rb, 1, none⟩ = some (.slice (some ⟨bb, 0, none⟩) n vc) ∧ w.cell? ⟨bb, j, none⟩ = some (.slice lq L.length cc) ∧ IntsAt w lq L ∧ L.length ≤ 1000000 := by
  subst hn
  have hq := h.fst.fst.snd.fok.2 L (List.mem_of_getElem? hL)
  obtain ⟨va, vc, hr⟩ := h.fst.fst.snd.fraw
  have c1 := hr.fcells.2.1
  obtain ⟨bb, v, rfl, c2, _, hm, _⟩ := Has.grow hr hL
  obtain ⟨lq, cc, rfl⟩ := hm.form
  exact ⟨bb, vc, lq, cc, c1, c2, (hm.ints hq.2).1, hq.1⟩
theorem elist_no (w : World) (h : Has w0 F0 (DD qb hb rb mb kd ws Ls lb lo A la q c I) w) (hi : ¬ IsQ Ls i) :
    Calls Tryz.prog 16 #[.pointer (some ⟨qb, 0, none⟩), .int .i64 i] w fun e w' => e = .returned (.tuple #[.slice none 0 0, .int .i64 2]) ∧ w = w' := qlist_no i w h.fst.fst.fst hi
theorem elist_yes {n : Nat} (j : Nat) (L : List Int) (w : World) (h : Has w0 F0 (DD qb hb rb mb kd ws Ls lb lo A la q c I) w) (hL : Ls[j]? = some L) (hn : L.length = n) :
    Calls Tryz.prog 16 #[.pointer (some ⟨qb, 0, none⟩), .int .i64 j] w fun e w' => ∃ la lc, e = .returned (.tuple #[.slice la n lc, .int .i64 0]) ∧ IntsAt w' la L ∧ Keep [] w w' := by
  subst hn
  have hq := h.fst.fst.snd.fok.2 L (List.mem_of_getElem? hL)
  refine (qlist_yes j L w h.fst.fst.fst hL).mono ?_
  rintro e w' ⟨va, vc, rfl, ho, hK⟩
  exact ⟨va, vc, rfl, (own_at ho hq.2).1, hK⟩
/-- The list of those that are in queues, as it is read. -/
theorem Has.din {w : World} {t : Nat} (h : Has w0 F0 (DD qb hb rb mb kd ws Ls lb lo A la q c I) w) (hB : Bo kd ws Ls I t) : IntsAt w la I ∧ I.length = q := by
  obtain ⟨h1, h2, _⟩ := own_at h.snd.own hB.inR
  exact ⟨h1, h2⟩
end
theorem sw8 (s : Nat) (_ : s < 8) : (((s : Int) == 0) = true ∨ ((s : Int) == 0) = false ∧ ((s : Int) == 1) = true)
    ∨ ((s : Int) == 0) = false ∧ ((s : Int) == 1) = false ∧ (((s : Int) == 2) = true ∨ ((s : Int) == 2) = false ∧ ((s : Int) == 3) = true ∨ ((s : Int) == 2) = false ∧ ((s : Int) == 3) = false ∧ ((s : Int) == 4) = true ∨ ((s : Int) == 2) = false ∧ ((s : Int) == 3) = false ∧ ((s : Int) == 4) = false ∧ ((s : Int) == 5) = true)
    ∨ ((s : Int) == 0) = false ∧ ((s : Int) == 1) = false ∧ ((s : Int) == 2) = false ∧ ((s : Int) == 3) = false ∧ ((s : Int) == 4) = false ∧ ((s : Int) == 5) = false := by
  simp only [beq_iff_eq, beq_eq_false_iff_ne]
  omega

end Go.Proofs.YtdpkmebckholnaaGreat
