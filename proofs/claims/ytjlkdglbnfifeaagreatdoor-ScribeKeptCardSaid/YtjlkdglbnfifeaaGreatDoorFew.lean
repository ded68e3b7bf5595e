/-
  A ROW OF THINGS (kind, number, text: three cells each): as it came in, and as the call's own; the contract of 'few'.
-/
import Derived.Test.YtjlkdglbnfifeaaGreatDoorSkip
import Derived.Test.YtjlkdglbnfifeaaGreatDoorOneW
namespace Go.Proofs.YtjlkdglbnfifeaaGreatDoor.Pk
open Go.RowKit

/-- A Thing. -/
structure Th where
  k : Int
  n : Int
  s : ByteArray
def Th.vals (t : Th) : List Value := [.int .i64 t.k, .int .i64 t.n, .string t.s]
def thRow (l : List Th) : List Value := l.flatMap Th.vals
theorem thRow_snoc (l : List Th) (t : Th) : thRow (l ++ [t]) = thRow l ++ t.vals := by simp [thRow]
theorem add_lt {a : Addr} {k : Nat} (h : a.block < k) (n : Nat) : (a.add n).block < k := by
  have e : (a.add n).block = a.block := by unfold Addr.add; split <;> rfl
  rw [e]; exact h
/-- A row of things in memory, behind p. -/
def ThAt (w : World) (p : Option Addr) (l : List Th) : Prop :=
  ∀ i (h : i < l.length), ∃ a, p = some a ∧ a.block < w.heap.size ∧ w.cell? (a.add (i * 3)) = some (.int .i64 l[i].k) ∧ w.cell? ⟨(a.add (i * 3)).block, (a.add (i * 3)).off + 1, none⟩ = some (.int .i64 l[i].n) ∧ w.cell? ⟨(a.add (i * 3)).block, (a.add (i * 3)).off + 2, none⟩ = some (.string l[i].s)
theorem ThAt.below {w w' : World} {p : Option Addr} {l : List Th} (h : ThAt w p l) (hb : Below w.heap.size w w') : ThAt w' p l := fun i hi => by
  obtain ⟨a, h1, h2, h3, h4, h5⟩ := h i hi
  exact ⟨a, h1, Nat.lt_of_lt_of_le h2 hb.size, (hb.cell (p := a.add (i * 3)) (add_lt h2 _)).trans h3, (hb.cell (p := ⟨(a.add (i * 3)).block, (a.add (i * 3)).off + 1, none⟩) (add_lt h2 _)).trans h4, (hb.cell (p := ⟨(a.add (i * 3)).block, (a.add (i * 3)).off + 2, none⟩) (add_lt h2 _)).trans h5⟩
/-- With at most 200 bytes of its text. -/
def Th.cut (t : Th) : Th := ⟨t.k, t.n, cutB t.s 200⟩
def fewL (l : List Th) (n : Nat) : List Th := (l.take n).map Th.cut
theorem fewL_snoc {l : List Th} {k : Nat} (h : k < l.length) : fewL l (k + 1) = fewL l k ++ [l[k].cut] := by
  unfold fewL
  rw [List.take_succ_eq_append_getElem h, List.map_append]; rfl
theorem fewL_len {l : List Th} {k : Nat} (h : k ≤ l.length) : (fewL l k).length = k := by
  unfold fewL; simp; omega
theorem Tryz.infoTh : (Tryz.prog.info? 32).map (fun i => (i.zero, i.size, i.bytes)) = some (some (.agg #[.int .i64 0, .int .i64 0, .string ⟨#[]⟩]), 3, 32) := by kernel_rfl

theorem thRow_get : ∀ (l : List Th) (i j : Nat) (h : i < l.length), j < 3 → (thRow l)[i * 3 + j]? = l[i].vals[j]?
  | [], _, _, h, _ => absurd h (by simp)
  | t :: l, 0, j, _, hj => by
    show (t.vals ++ thRow l)[0 * 3 + j]? = t.vals[j]?
    rw [List.getElem?_append_left (by show 0 * 3 + j < 3; omega), show 0 * 3 + j = j from by omega]
  | t :: l, i + 1, j, h, hj => by
    show (t.vals ++ thRow l)[(i + 1) * 3 + j]? = (l[i]'(by simpa using h)).vals[j]?
    rw [List.getElem?_append_right (by show 3 ≤ (i + 1) * 3 + j; omega), show (i + 1) * 3 + j - t.vals.length = i * 3 + j from by show (i + 1) * 3 + j - 3 = _; omega]
    exact thRow_get l i j (by simpa using h) hj
/-- A row of things of the call's own, in block g. -/
structure ThRow (w : World) (base g : Nat) (l : List Th) : Prop where
  ge : base ≤ g
  kind : ∃ cs fz, w.heap[g]? = some (.cells cs 32 fz)
  cells : ∀ i (h : i < l.length), w.cell? ⟨g, i * 3, none⟩ = some (.int .i64 l[i].k) ∧ w.cell? ⟨g, i * 3 + 1, none⟩ = some (.int .i64 l[i].n) ∧ w.cell? ⟨g, i * 3 + 2, none⟩ = some (.string l[i].s)
theorem ThRow.mk' {w : World} {base g c : Nat} {l : List Th} (h : w.ownsRow base 32 3 (.slice (some ⟨g, 0, none⟩) l.length c) l.length (thRow l)) : ThRow w base g l := by
  refine ⟨(h.lt g rfl).1, ?_, fun i hi => ⟨?_, ?_, ?_⟩⟩
  · rcases h.2 with ⟨h1, _⟩ | ⟨g', cap, cur, h1, hB, hgg, _⟩
    · cases h1
    · injection h1 with h1 _ _
      injection h1 with h1
      injection h1 with h1
      subst h1
      exact ⟨_, _, hgg⟩
  · have := h.cellAt (i * 3) (by omega)
    rw [this, show i * 3 = i * 3 + 0 from rfl, thRow_get l i 0 hi (by omega)]; rfl
  · rw [h.cellAt (i * 3 + 1) (by omega), thRow_get l i 1 hi (by omega)]; rfl
  · rw [h.cellAt (i * 3 + 2) (by omega), thRow_get l i 2 hi (by omega)]; rfl
theorem ThRow.kept {w w' : World} {base g : Nat} {l : List Th} (h : ThRow w base g l) (e : w'.heap[g]? = w.heap[g]?) : ThRow w' base g l :=
  ⟨h.ge, by rw [e]; exact h.kind, fun i hi => by
    have hc (j : Nat) : w'.cell? ⟨g, j, none⟩ = w.cell? ⟨g, j, none⟩ := World.cell?_of_block e
    rw [hc, hc, hc]; exact h.cells i hi⟩
/-- A new Thing's cells. -/
theorem th_new {b : Nat} (w : World) (t : Th) (hb : w.heap.size = b) : ∀ (j : Nat) (u : Value), t.vals[j]? = some u → (w.alloc (.cells #[.int .i64 t.k, .int .i64 t.n, .string t.s] 32)).cell? (Addr.add ⟨b, 0, none⟩ j) = some u := by
  subst hb
  intro j u hj
  match j, hj with
  | 0, hj => simp [Th.vals] at hj; subst hj; simp [Addr.add, go_sem]
  | 1, hj => simp [Th.vals] at hj; subst hj; simp [Addr.add, go_sem]
  | 2, hj => simp [Th.vals] at hj; subst hj; simp [Addr.add, go_sem]
  | n + 3, hj => simp [Th.vals] at hj

end Go.Proofs.YtjlkdglbnfifeaaGreatDoor.Pk
