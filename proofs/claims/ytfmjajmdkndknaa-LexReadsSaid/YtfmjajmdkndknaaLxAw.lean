/-
  CONTRACTS: Lex's answer as a row of tokens; layer 11's awake, Cut.
-/
import Derived.Test.YtfmjajmdkndknaaLxL
import Derived.Test.YtfmjajmdkndknaaCutA
namespace Go.Proofs.Ytfmjajmdkndknaa
open Go.RowKit

/-- These tokens lie in block g. -/
structure TAt (w : World) (g : Nat) (l : List Tok) : Prop where
  lt : g < w.heap.size
  k : ∀ i (h : i < l.length), w.cell? ⟨g, i * 3, none⟩ = some (.int .i64 l[i].k)
  t : ∀ i (h : i < l.length), w.cell? ⟨g, i * 3 + 1, none⟩ = some (.string ⟨l[i].t.toArray⟩)
  a : ∀ i (h : i < l.length), w.cell? ⟨g, i * 3 + 2, none⟩ = some (.int .i64 l[i].a)
theorem TAt.below {w w' : World} {g B : Nat} {l : List Tok} (h : TAt w g l) (hb : Below B w w') (hB : w.heap.size ≤ B) : TAt w' g l := by
  have hc : ∀ o, w'.cell? ⟨g, o, none⟩ = w.cell? ⟨g, o, none⟩ := fun o => hb.cell (p := ⟨g, o, none⟩) (Nat.lt_of_lt_of_le h.lt hB)
  exact ⟨Nat.lt_of_lt_of_le h.lt hb.size, fun i hi => (hc _).trans (h.k i hi), fun i hi => (hc _).trans (h.t i hi), fun i hi => (hc _).trans (h.a i hi)⟩
theorem TAt.drew {w : World} {g : Nat} {l : List Tok} (h : TAt w g l) : TAt w.drew g l := ⟨h.lt, h.k, h.t, h.a⟩
theorem TAt.own {w : World} {B g c n : Nat} {l : List Tok} (hn : l.length = n + 1) (h : w.ownsRow B 36 3 (.slice (some ⟨g, 0, none⟩) (n + 1) c) (n + 1) (tokRow l)) : TAt w g l := by
  refine ⟨(own_base h g rfl).2, fun i hi => ?_, fun i hi => ?_, fun i hi => ?_⟩
  · rw [h.cellAt (i * 3) (by omega), show i * 3 = i * 3 + 0 from rfl, tokRow_get _ i 0 hi (by omega)]; rfl
  · rw [h.cellAt (i * 3 + 1) (by omega), tokRow_get _ i 1 hi (by omega)]; rfl
  · rw [h.cellAt (i * 3 + 2) (by omega), tokRow_get _ i 2 hi (by omega)]; rfl
def endT (n : Nat) : Tok := ⟨0, [], n⟩
/-- Lex's answer where there is no error. -/
def OkPost (l : List Tok) (n : Nat) (w : World) (e : Ending) (w' : World) : Prop :=
  ∃ g c, e = .returned (.tuple #[.slice (some ⟨g, 0, none⟩) (l.length + 1) c, .int .i64 0, .int .i64 0]) ∧ TAt w' g (l ++ [endT n]) ∧ Below w.heap.size w w'
theorem lex_ok (s : ByteArray) (l : List Tok) (w : World) (hs : s.size ≤ 4000) (h : lexL s.data.toList = .ok l) : Calls Try.prog 11 #[.string s] w (OkPost l s.size w) := by
  refine (lex_any s w hs).mono ?_
  intro e w' hp
  rw [h] at hp
  obtain ⟨⟨g, c, h1, h2⟩, h3⟩ := hp
  exact ⟨g, c, h1, TAt.own (by simp) h2, h3⟩
theorem lex_err (s : ByteArray) (p : Nat) (w : World) (hs : s.size ≤ 4000) (h : lexL s.data.toList = .error p) : Calls Try.prog 11 #[.string s] w fun e w' => e = .returned (.tuple #[.slice none 0 0, .int .i64 (p : Int), .int .i64 9]) ∧ Below w.heap.size w w' := by
  refine (lex_any s w hs).mono ?_
  intro e w' hp
  rw [h] at hp
  exact hp
theorem aw1 : lexL [97, 47, 98, 47, 99] = .ok [⟨5, [97], 0⟩, ⟨8, [47], 1⟩, ⟨5, [98], 2⟩, ⟨8, [47], 3⟩, ⟨5, [99], 4⟩] := by rfl
theorem aw2 : lexL [120, 126, 47, 98, 47] = .ok [⟨5, [120], 0⟩, ⟨8, [126], 1⟩, ⟨4, [98], 2⟩] := by rfl
theorem aw3 : lexL [32, 34, 97, 98] = .error 1 := by rfl
set_option maxHeartbeats 2000000 in
theorem awake_any (w : World) :
    Calls Try.prog 13 #[] w fun e w' => e = .returned (.bool true) ∧ Below w.heap.size w w' := by
  have C1 := Lib.hid fun W => lex_ok ⟨#[97, 47, 98, 47, 99]⟩ _ W (by decide) aw1
  have C2 := Lib.hid fun W => lex_ok ⟨#[120, 126, 47, 98, 47]⟩ _ W (by decide) aw2
  have C3 := Lib.hid fun W => lex_err ⟨#[32, 34, 97, 98]⟩ _ W (by decide) aw3
  go_enter Try.func13, Try.ntmps13
  go_wp2_with fail
  refine (C1.out _).mono ?_
  rintro e w1 ⟨g1, c1, rfl, t1, b1⟩
  have T1 := Lib.hid t1
  have B1 := Lib.hid b1
  clear t1 b1
  go_wp2_with fail
  refine (C2.out _).mono ?_
  rintro e w2 ⟨g2, c2, rfl, t2, b2⟩
  have T1' := Lib.hid (T1.out.below b2 (Nat.le_refl _))
  have T2 := Lib.hid t2
  have B2 := Lib.hid (B1.out.trans (b2.mono B1.out.size))
  clear t2 b2 T1 B1
  go_wp2_with fail
  refine (C3.out _).mono ?_
  rintro e w3 ⟨rfl, b3⟩
  have d1 : w3.cell? ⟨g1, 3, none⟩ = some (.int .i64 8) := (T1'.out.below b3 (Nat.le_refl _)).k 1 (by decide)
  have d2 : w3.cell? ⟨g2, 6, none⟩ = some (.int .i64 4) := (T2.out.below b3 (Nat.le_refl _)).k 2 (by decide)
  have B3 := Lib.hid (B2.out.trans (b3.mono B2.out.size))
  clear b3 T1' T2 B2
  go_wp2_with fail
  go_ret
  exact ⟨rfl, B3.out⟩
end Go.Proofs.Ytfmjajmdkndknaa
