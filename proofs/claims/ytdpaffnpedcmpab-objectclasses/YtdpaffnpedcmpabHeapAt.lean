/-
  A heap in memory: its block, its space and its table, in blocks of their own; what a call of its space or of its table leaves of it.
-/
import Derived.Test.YtdpaffnpedcmpabSep
import Derived.Test.YtdpaffnpedcmpabObjT
import Derived.Test.YtdpaffnpedcmpabSpaceHeld
import Derived.Test.YtdpaffnpedcmpabSpaceAns
import Derived.Test.YtdpaffnpedcmpabClassOps
namespace Go.Proofs.Ytdpaffnpedcmpab
open Go.RowKit

def spaceA (sb : Nat) (ws : List Int) (kd : List PK) : Asn where
  at' w F := IsSpace w sb F ws kd
  keep := fun h K hS => h.keep K hS
  lt := fun h => h.lt
def tabA (tb : Nat) (ds : List (Int × List Int)) : Asn where
  at' w F := IsTab w tb F ds
  keep := fun h K hS => h.keep K hS
  lt := fun h => h.lt
/-- Block hb is a heap of the space sb and the table tb. -/
def rawA (hb sb tb : Nat) (ws : List Int) (kd : List PK) (ds : List (Int × List Int)) : Asn :=
  (blockA hb (.cells #[.pointer (some ⟨sb, 0, none⟩), .pointer (some ⟨tb, 0, none⟩)] 37 (0, 0))).star ((spaceA sb ws kd).star (tabA tb ds))
def heapA (hb : Nat) (ws : List Int) (kd : List PK) (ds : List (Int × List Int)) : Asn where
  at' w F := (∃ sb tb, (rawA hb sb tb ws kd ds).at' w F) ∧ Fine ws kd ds
  keep := fun h K hS => by
    obtain ⟨⟨sb, tb, h1⟩, h2⟩ := h
    exact ⟨⟨sb, tb, (rawA hb sb tb ws kd ds).keep h1 K hS⟩, h2⟩
  lt := fun h => by
    obtain ⟨⟨sb, tb, h1⟩, h2⟩ := h
    exact (rawA hb sb tb ws kd ds).lt h1

theorem Has.fine {w0 w : World} {F0 : List Nat} {hb : Nat} {ws : List Int} {kd : List PK} {ds : List (Int × List Int)} (h : Has w0 F0 (heapA hb ws kd ds) w) : Fine ws kd ds := h.fact (fun _ h => h.2)
theorem Has.raw {w0 w : World} {F0 : List Nat} {hb : Nat} {ws : List Int} {kd : List PK} {ds : List (Int × List Int)} (h : Has w0 F0 (heapA hb ws kd ds) w) : ∃ sb tb, Has w0 F0 (rawA hb sb tb ws kd ds) w := by
  obtain ⟨F, ⟨⟨sb, tb, h1⟩, h2⟩, u⟩ := h
  exact ⟨sb, tb, F, h1, u⟩
theorem Has.heap {w0 w : World} {F0 : List Nat} {hb sb tb : Nat} {ws : List Int} {kd : List PK} {ds : List (Int × List Int)} (h : Has w0 F0 (rawA hb sb tb ws kd ds) w) (hf : Fine ws kd ds) : Has w0 F0 (heapA hb ws kd ds) w :=
  h.map (fun _ h => ⟨⟨sb, tb, h⟩, hf⟩)
/-- The cells that are read. -/
theorem Has.cells {w0 w : World} {F0 : List Nat} {hb sb tb : Nat} {ws : List Int} {kd : List PK} {ds : List (Int × List Int)} (h : Has w0 F0 (rawA hb sb tb ws kd ds) w) :
    w.cell? ⟨hb, 0, none⟩ = some (.pointer (some ⟨sb, 0, none⟩)) ∧ w.cell? ⟨hb, 1, none⟩ = some (.pointer (some ⟨tb, 0, none⟩)) ∧
      (∃ ab ag, w.cell? ⟨sb, 0, none⟩ = some (.pointer (some ⟨ab, 0, none⟩)) ∧ IsArena w ab ag ws) ∧ (∃ pb, w.cell? ⟨sb, 1, none⟩ = some (.pointer (some ⟨pb, 0, none⟩))) ∧ ws.length = 64 * kd.length := by
  refine h.fact (fun F h => ?_)
  obtain ⟨F1, F2, _, ⟨_, h1⟩, ⟨F3, F4, _, ⟨L, h2⟩, h3, _⟩, _⟩ := h
  exact ⟨by simp [World.cell?, h1], by simp [World.cell?, h1], ⟨_, _, h2.c0, h2.arena⟩, ⟨_, h2.c1⟩, h2.len⟩
theorem Has.space {w0 w : World} {F0 : List Nat} {hb sb tb : Nat} {ws : List Int} {kd : List PK} {ds : List (Int × List Int)} (h : Has w0 F0 (rawA hb sb tb ws kd ds) w) : ∃ F, IsSpace w sb F ws kd :=
  h.fact (fun F h => by obtain ⟨F1, F2, _, _, ⟨F3, F4, _, h2, h3, _⟩, _⟩ := h; exact ⟨F3, h2⟩)
theorem Has.tab {w0 w : World} {F0 : List Nat} {hb sb tb : Nat} {ws : List Int} {kd : List PK} {ds : List (Int × List Int)} (h : Has w0 F0 (rawA hb sb tb ws kd ds) w) : ∃ F, IsTab w tb F ds :=
  h.fact (fun F h => by obtain ⟨F1, F2, _, _, ⟨F3, F4, _, h2, h3, _⟩, _⟩ := h; exact ⟨F4, h3⟩)
/-- What turns the space alone. -/
theorem Has.inSpace {w0 w w' : World} {F0 : List Nat} {hb sb tb : Nat} {ws ws' : List Int} {kd kd' : List PK} {ds : List (Int × List Int)} (h : Has w0 F0 (rawA hb sb tb ws kd ds) w)
    (g : ∀ F, IsSpace w sb F ws kd → ∃ F', IsSpace w' sb F' ws' kd' ∧ Keep F w w' ∧ Grows w F F') : Has w0 F0 (rawA hb sb tb ws' kd' ds) w' := by
  have h1 := Has.comm h
  have h2 := Has.left h1 (A' := (spaceA sb ws' kd').star (tabA tb ds)) (w' := w') (fun F e => Has.left (Has.start e) (fun F e => by
    obtain ⟨F', g1, g2, g3⟩ := g F e
    exact ⟨F', g1, g2, g3⟩))
  exact h2.comm
/-- What turns the table alone. -/
theorem Has.inTab {w0 w w' : World} {F0 : List Nat} {hb sb tb : Nat} {ws : List Int} {kd : List PK} {ds ds' : List (Int × List Int)} (h : Has w0 F0 (rawA hb sb tb ws kd ds) w)
    (g : ∀ F, IsTab w tb F ds → ∃ F', IsTab w' tb F' ds' ∧ Keep F w w' ∧ Grows w F F') : Has w0 F0 (rawA hb sb tb ws kd ds') w' := by
  have h1 := Has.comm h
  have h2 := Has.left h1 (A' := (spaceA sb ws kd).star (tabA tb ds')) (w' := w') (fun F e => (Has.left (Has.start e).comm (A' := tabA tb ds') (fun F e => by
    obtain ⟨F', g1, g2, g3⟩ := g F e
    exact ⟨F', g1, g2, g3⟩)).comm)
  exact h2.comm

/-! ### Calls of the space and of the table -/
section
variable {w0 : World} {F0 : List Nat} {hb sb tb : Nat} {ws : List Int} {kd : List PK} {ds : List (Int × List Int)} (w : World)
theorem xalloc (n N E : Int) (ws' : List Int) (kd' : List PK) (h : Has w0 F0 (rawA hb sb tb ws kd ds) w) (hw : WF kd) (hr : AllocT kd ws n N E ws' kd') :
    Calls Try.prog 24 #[.pointer (some ⟨sb, 0, none⟩), .int .i64 n] w fun e w' => e = .returned (.tuple #[.int .i64 N, .int .i64 E]) ∧ Has w0 F0 (rawA hb sb tb ws' kd' ds) w' := by
  cases hr with
  | arg hb =>
    refine (salloc_arg sb n w hb).mono ?_
    rintro e w' ⟨rfl, hK⟩
    exact ⟨rfl, h.keep0 hK⟩
  | no hb hr =>
    obtain ⟨F, hS⟩ := h.space
    refine (salloc_no sb n F ws kd w hS hw hr hb).mono ?_
    rintro e w' ⟨rfl, hK⟩
    exact ⟨rfl, h.keep0 hK⟩
  | yes a b kd' hr hb =>
    obtain ⟨F, ⟨F1, F2, hF, h1, ⟨F3, F4, hF', h2, h3, hd'⟩, hd⟩, u⟩ := h
    refine (salloc_yes sb a b n F3 ws kd kd' w h2 hw hr hb).mono ?_
    rintro e w' ⟨F', rfl, hS, hK, hG⟩
    obtain ⟨G1, g1, g2⟩ := star_left (A' := spaceA sb (fill0 ws a b) kd') (B := tabA tb ds) hF' hd' h3 hS ⟨hK, hG⟩
    obtain ⟨G2, g3, g4⟩ := star_right hF hd h1 g1 g2
    exact ⟨rfl, G2, g3, u.trans g4⟩
theorem xfree (a E : Int) (kd' : List PK) (h : Has w0 F0 (rawA hb sb tb ws kd ds) w) (hw : WF kd) (hr : FreeT kd a E kd') :
    Calls Try.prog 10 #[.pointer (some ⟨sb, 0, none⟩), .int .i64 a] w fun e w' => e = .returned (.int .i64 E) ∧ Has w0 F0 (rawA hb sb tb ws kd' ds) w' := by
  cases hr with
  | no ho =>
    obtain ⟨F, hS⟩ := h.space
    refine (sfree_no sb F a ws kd w hS hw ho).mono ?_
    rintro e w' ⟨rfl, hK⟩
    exact ⟨rfl, h.keep0 hK⟩
  | yes b m kd' e hf hr =>
    subst e
    obtain ⟨F, ⟨F1, F2, hF, h1, ⟨F3, F4, hF', h2, h3, hd'⟩, hd⟩, u⟩ := h
    refine (sfree_yes sb b m F3 ws kd kd' w h2 hw hf hr).mono ?_
    rintro e w' ⟨rfl, hS, hK⟩
    obtain ⟨G1, g1, g2⟩ := star_left (A' := spaceA sb ws kd') (B := tabA tb ds) hF' hd' h3 hS ⟨hK, Grows.refl _ _⟩
    obtain ⟨G2, g3, g4⟩ := star_right hF hd h1 g1 g2
    exact ⟨rfl, G2, g3, u.trans g4⟩
theorem xfind (a : Int) (h : Has w0 F0 (rawA hb sb tb ws kd ds) w) (hw : WF kd) :
    Calls Try.prog 28 #[.pointer (some ⟨sb, 0, none⟩), .int .i64 a] w fun e w' => e = .returned (foundV (findI kd a)) ∧ Keep [] w w' := by
  obtain ⟨F, hS⟩ := h.space
  exact sfind_any sb F a ws kd w hS hw
theorem xeach (h : Has w0 F0 (rawA hb sb tb ws kd ds) w) (hw : WF kd) :
    Calls Try.prog 34 #[.pointer (some ⟨sb, 0, none⟩)] w fun e w' => ∃ la lc, e = .returned (.slice la (eachK kd).length lc) ∧ IntsAt w' la (eachK kd) ∧ (∀ a, la = some a → w.heap.size ≤ a.block) ∧ Keep [] w w' := by
  obtain ⟨F, hS⟩ := h.space
  refine (seach_any sb F ws kd w hS hw).mono ?_
  rintro e w' ⟨v, rfl, ⟨la, lc, rfl, h1, h2, h3⟩, hK⟩
  exact ⟨la, lc, rfl, h1, h3, hK⟩
/-- The arena's own calls, through the space. -/
theorem xload (ab ag a : Nat) (hA : IsArena w ab ag ws) (ha : a < ws.length) :
    Calls Try.prog 32 #[.pointer (some ⟨ab, 0, none⟩), .int .i64 a] w fun e w' => e = .returned (.tuple #[.int .i64 (ws[a]?.getD 0), .int .i64 0]) ∧ w = w' := load_yes ab ag a ws w hA ha
theorem xstore (ab a : Nat) (x : Int) (h : Has w0 F0 (rawA hb sb tb ws kd ds) w) (hc : w.cell? ⟨sb, 0, none⟩ = some (.pointer (some ⟨ab, 0, none⟩))) (ha : a < ws.length) :
    Calls Try.prog 27 #[.pointer (some ⟨ab, 0, none⟩), .int .i64 a, .int .i64 x] w fun e w' => e = .returned (.int .i64 0) ∧ Has w0 F0 (rawA hb sb tb (ws.set a x) kd ds) w' := by
  obtain ⟨F, ⟨F1, F2, hF, h1, ⟨F3, F4, hF', ⟨L, h2⟩, h3, hd'⟩, hd⟩, u⟩ := h
  have e := h2.c0
  rw [hc] at e
  have e2 : ab = L.ab := by injection e with e; injection e with e; injection e with e; injection e
  subst e2
  refine (store_yes L.ab L.ag a x ws w h2.arena ha).mono ?_
  rintro e w' ⟨rfl, hA, hK⟩
  have f := h2.f.2.2.1
  obtain ⟨G1, g1, g2⟩ := star_left (A' := spaceA sb (ws.set a x) kd) (B := tabA tb ds) hF' hd' h3 ⟨L, h2.words hK hA (by simp)⟩ ⟨hK.mono (fun k e => by simp at e; subst e; exact f), fun k e => .inl e⟩
  obtain ⟨G2, g3, g4⟩ := star_right hF hd h1 g1 g2
  exact ⟨rfl, G2, g3, u.trans g4⟩
theorem xadd (f : Int) (ao : Option Addr) (n c : Nat) (L : List Int) (h : Has w0 F0 (rawA hb sb tb ws kd ds) w) (hA : IntsAt w ao L) (hc : ao = none → c = 0) (hn : L.length = n) (hbd : n ≤ 1000000) :
    Calls Try.prog 36 #[.pointer (some ⟨tb, 0, none⟩), .agg #[.int .i64 f, .slice ao n c]] w fun e w' => e = .returned (.tuple #[.int .i64 (addN ds f L), .int .i64 (addE ds f L)]) ∧ Has w0 F0 (rawA hb sb tb ws kd (addR ds f L)) w' := by
  obtain ⟨F, ⟨F1, F2, hF, h1, ⟨F3, F4, hF', h2, h3, hd'⟩, hd⟩, u⟩ := h
  refine (tadd_any tb F4 ds f ao n c L w h3 hA hc hn hbd).mono ?_
  rintro e w' ⟨rfl, ⟨F', hT, hG⟩, hK⟩
  obtain ⟨G1, g1, g2⟩ := star_right (A := spaceA sb ws kd) (B' := tabA tb (addR ds f L)) hF' hd' h2 hT ⟨hK, hG⟩
  obtain ⟨G2, g3, g4⟩ := star_right hF hd h1 g1 g2
  exact ⟨rfl, G2, g3, u.trans g4⟩
theorem xof (f : Int) (ao : Option Addr) (n c : Nat) (L : List Int) (h : Has w0 F0 (rawA hb sb tb ws kd ds) w) (hA : IntsAt w ao L) (hc : ao = none → c = 0) (hn : L.length = n) (hbd : n ≤ 1000000) :
    Calls Try.prog 15 #[.pointer (some ⟨tb, 0, none⟩), .int .i64 f, .slice ao n c] w fun e w' => e = .returned (.tuple #[.int .i64 (addN ds f L), .int .i64 (addE ds f L)]) ∧ Has w0 F0 (rawA hb sb tb ws kd (addR ds f L)) w' := by
  obtain ⟨F, ⟨F1, F2, hF, h1, ⟨F3, F4, hF', h2, h3, hd'⟩, hd⟩, u⟩ := h
  refine (tof_any tb F4 ds f ao n c L w h3 hA hc hn hbd).mono ?_
  rintro e w' ⟨rfl, ⟨F', hT, hG⟩, hK⟩
  obtain ⟨G1, g1, g2⟩ := star_right (A := spaceA sb ws kd) (B' := tabA tb (addR ds f L)) hF' hd' h2 hT ⟨hK, hG⟩
  obtain ⟨G2, g3, g4⟩ := star_right hF hd h1 g1 g2
  exact ⟨rfl, G2, g3, u.trans g4⟩
end

end Go.Proofs.Ytdpaffnpedcmpab
