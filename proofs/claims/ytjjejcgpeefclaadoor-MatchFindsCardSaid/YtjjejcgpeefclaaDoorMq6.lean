/-
  THE DOCUMENT's OWN things of a pattern (scriberef09.atom): the places of a reader with its result, a reader that has gone wrong; what an atom is.
-/
import Derived.Test.YtjjejcgpeefclaaDoorMq5
namespace Go.Proofs.YtjjejcgpeefclaaDoor
open Go.RowKit

/-- A node lies in block b, free to be written. -/
structure Rsn (w : World) (b : Nat) (nd : RNd) : Prop where
  c0 : w.cell? ⟨b, 0, none⟩ = some (.int .i64 nd.op)
  c1 : w.cell? ⟨b, 1, none⟩ = some (.string nd.set)
  c2 : w.cell? ⟨b, 2, none⟩ = some (.slice nd.kp nd.kn nd.kc)
  f0 : w.frozen? ⟨b, 0, none⟩ = false
  f1 : w.frozen? ⟨b, 1, none⟩ = false
  f2 : w.frozen? ⟨b, 2, none⟩ = false
section
variable {w w1 : World} {b B : Nat} {nd : RNd}
theorem Rsn.lt (h : Rsn w b nd) : b < w.heap.size := World.block_lt_of_cell? _ _ h.c0
theorem Rsn.kept (h : Rsn w b nd) (hb : w1.heap[b]? = w.heap[b]?) : Rsn w1 b nd := by
  have hc : ∀ o, w1.cell? ⟨b, o, none⟩ = w.cell? ⟨b, o, none⟩ := fun o => World.cell?_of_block (w := w) hb
  have hf : ∀ o, w1.frozen? ⟨b, o, none⟩ = w.frozen? ⟨b, o, none⟩ := fun o => World.frozen?_of_block (w := w) hb
  obtain ⟨c0, c1, c2, f0, f1, f2⟩ := h
  constructor <;> (first | rw [hc] | rw [hf]) <;> assumption
theorem Rsn.keep (h : Rsn w b nd) (hB : Below w.heap.size w w1) : Rsn w1 b nd := h.kept (hB.block b h.lt)
theorem Rsn.drew (h : Rsn w b nd) : Rsn w.drew b nd := by
  obtain ⟨c0, c1, c2, f0, f1, f2⟩ := h
  exact ⟨c0, c1, c2, f0, f1, f2⟩
theorem Rsn.new (w : World) (T : TypeId) (nd : RNd) : Rsn (w.alloc (.cells #[.int .i64 nd.op, .string nd.set, .slice nd.kp nd.kn nd.kc] T)) w.heap.size nd := by
  constructor <;> simp [go_sem]
theorem Rsn.set0 (h : Rsn w b nd) (x : Int) : Rsn (w.setCell ⟨b, 0, none⟩ (.int .i64 x)) b { nd with op := x } := by
  obtain ⟨c0, c1, c2, f0, f1, f2⟩ := h
  constructor <;> first | (rw [World.cell?_setCell_other _ _ _ _ (by simp)]; assumption) | exact World.cell?_setCell_same _ _ _ c0 | simpa
theorem Rsn.set1 (h : Rsn w b nd) (x : ByteArray) : Rsn (w.setCell ⟨b, 1, none⟩ (.string x)) b { nd with set := x } := by
  obtain ⟨c0, c1, c2, f0, f1, f2⟩ := h
  constructor <;> first | (rw [World.cell?_setCell_other _ _ _ _ (by simp)]; assumption) | exact World.cell?_setCell_same _ _ _ c1 | simpa
theorem Rsn.set2 (h : Rsn w b nd) (kp : Option Addr) (kn kc : Nat) : Rsn (w.setCell ⟨b, 2, none⟩ (.slice kp kn kc)) b { nd with kp := kp, kn := kn, kc := kc } := by
  obtain ⟨c0, c1, c2, f0, f1, f2⟩ := h
  constructor <;> first | (rw [World.cell?_setCell_other _ _ _ _ (by simp)]; assumption) | exact World.cell?_setCell_same _ _ _ c2 | simpa
end
def putN (w : World) (b : Nat) (nd : RNd) : World := ((w.setCell ⟨b, 0, none⟩ (.int .i64 nd.op)).setCell ⟨b, 1, none⟩ (.string nd.set)).setCell ⟨b, 2, none⟩ (.slice nd.kp nd.kn nd.kc)
theorem putN_block {w : World} {b k : Nat} (hk : k ≠ b) (nd : RNd) : (putN w b nd).heap[k]? = w.heap[k]? := by
  unfold putN
  rw [Below.heap_setCell _ _ _ _ hk, Below.heap_setCell _ _ _ _ hk, Below.heap_setCell _ _ _ _ hk]
theorem putN_size (w : World) (b : Nat) (nd : RNd) : (putN w b nd).heap.size = w.heap.size := by simp [putN]
theorem Rsn.put {w : World} {b : Nat} {nd : RNd} (h : Rsn w b nd) (n' : RNd) : Rsn (putN w b n') b n' := ((h.set0 n'.op).set1 n'.set).set2 n'.kp n'.kn n'.kc
theorem putN_below {B b : Nat} {w w3 : World} (h : Below B w w3) (hb : B ≤ b) (nd : RNd) : Below B w (putN w3 b nd) :=
  ((h.setCell (p := ⟨b, 0, none⟩) hb _).setCell (p := ⟨b, 1, none⟩) hb _).setCell (p := ⟨b, 2, none⟩) hb _
/-- A reader's three places: its own, and the two that it hands back. -/
structure Rs3 (w0 : World) (s : ByteArray) (a dp er bd : Int) (w : World) : Prop where
  rs : Rs2 w0 w0.heap.size (w0.heap.size + 1) s a dp er bd w
  nod : Rsn w (w0.heap.size + 2) RNd.zero
section
variable {w0 w w1 : World} {s : ByteArray} {a dp er bd : Int}
theorem Rs3.keep (h : Rs3 w0 s a dp er bd w) (hB : Below w.heap.size w w1) : Rs3 w0 s a dp er bd w1 := ⟨h.rs.keep hB, h.nod.keep hB⟩
theorem Rs3.drew (h : Rs3 w0 s a dp er bd w) : Rs3 w0 s a dp er bd w.drew := ⟨h.rs.drew, h.nod.drew⟩
theorem Rs3.kept (h : Rs3 w0 s a dp er bd w) (h1 : ∀ k, k < w0.heap.size + 3 → w1.heap[k]? = w.heap[k]?) (h3 : Below w0.heap.size w0 w1) : Rs3 w0 s a dp er bd w1 :=
  ⟨h.rs.kept (h1 _ (by omega)) (h1 _ (by omega)) h3, h.nod.kept (h1 _ (by omega))⟩
theorem Rs3.set1 (h : Rs3 w0 s a dp er bd w) (x : Int) : Rs3 w0 s x dp er bd (w.setCell ⟨w0.heap.size, 1, none⟩ (.int .i64 x)) := ⟨h.rs.set1 x, h.nod.kept (Below.heap_setCell _ _ _ _ (by show w0.heap.size + 2 ≠ w0.heap.size; omega))⟩
theorem Rs3.set2 (h : Rs3 w0 s a dp er bd w) (x : Int) : Rs3 w0 s a x er bd (w.setCell ⟨w0.heap.size, 2, none⟩ (.int .i64 x)) := ⟨h.rs.set2 x, h.nod.kept (Below.heap_setCell _ _ _ _ (by show w0.heap.size + 2 ≠ w0.heap.size; omega))⟩
theorem Rs3.put (h : Rs3 w0 s a dp er bd w) (a' dp' er' bd' : Int) : Rs3 w0 s a' dp' er' bd' (putS w w0.heap.size s a' dp' er' bd') := ⟨h.rs.put _ _ _ _ _, h.nod.kept (putS_block (by omega) _ _ _ _ _)⟩
theorem Rs3.size (h : Rs3 w0 s a dp er bd w) : w0.heap.size + 3 ≤ w.heap.size := h.nod.lt
/-- Both results laid into their places. -/
def put2 (w0 w : World) (s : ByteArray) (a dp er bd : Int) (nd : RNd) : World := putN (putS w (w0.heap.size + 1) s a dp er bd) (w0.heap.size + 2) nd
theorem put2_block (w0 w : World) (s : ByteArray) (a dp er bd : Int) (nd : RNd) {k : Nat} (hk : w0.heap.size + 3 ≤ k) : (put2 w0 w s a dp er bd nd).heap[k]? = w.heap[k]? := by
  unfold put2; rw [putN_block (by omega), putS_block (by omega)]
theorem Rs3.last (h : Rs3 w0 s a dp er bd w) (a' dp' er' bd' : Int) (nd : RNd) : Ss (put2 w0 w s a' dp' er' bd' nd) (w0.heap.size + 1) s a' dp' er' bd' ∧ Rsn (put2 w0 w s a' dp' er' bd' nd) (w0.heap.size + 2) nd ∧ Below w0.heap.size w0 (put2 w0 w s a' dp' er' bd' nd) := by
  have h1 := h.rs.last s a' dp' er' bd'
  refine ⟨h1.1.kept (putN_block (by omega) nd), (h.nod.kept (putS_block (by omega) _ _ _ _ _)).put nd, putN_below h1.2 (by omega) nd⟩
end
theorem Rs3.start (w : World) (s : ByteArray) (a dp er bd : Int) (T : TypeId) : Rs3 w s a dp er bd (((w.alloc (.cells #[.string s, .int .i64 a, .int .i64 dp, .int .i64 er, .int .i64 bd] T)).alloc (.cells #[.string ⟨#[]⟩, .int .i64 0, .int .i64 0, .int .i64 0, .int .i64 0] T)).alloc (.cells #[.int .i64 0, .string ⟨#[]⟩, .slice none 0 0] 30)) := by
  have h := Rs2.start w s a dp er bd T
  refine ⟨h.keep ((Below.refl _ _).alloc (Nat.le_refl _) _), ?_⟩
  have := Rsn.new ((w.alloc (.cells #[.string s, .int .i64 a, .int .i64 dp, .int .i64 er, .int .i64 bd] T)).alloc (.cells #[.string ⟨#[]⟩, .int .i64 0, .int .i64 0, .int .i64 0, .int .i64 0] T)) 30 RNd.zero
  simpa [RNd.zero] using this
/-- What a reader of things, parts, patterns hands back. -/
def AxPost (s : ByteArray) (dp : Int) (bd : Int) (d : Nat) (X : PR RT) (w : World) (e : Ending) (w' : World) : Prop :=
  (∃ (a er b' : Int) (nd : RNd), e = .returned (.tuple #[rsv s a dp er b', nd.val]) ∧ 0 ≤ a ∧ a ≤ (s.size : Int) + 4 + d ∧
    ((∃ t r, X = .ok (t, r) ∧ r <:+ s.data.toList ∧ a = ((s.size - r.length : Nat) : Int) ∧ er = 0 ∧ b' = bd ∧ TreeM w' (fun k => w.heap.size ≤ k) t nd) ∨
     (∃ n0 k : Nat, X = .error (n0, k) ∧ (k = 9 ∨ k = 14) ∧ n0 ≤ s.size ∧ er = (k : Int) ∧ b' = ((s.size - n0 : Nat) : Int)))) ∧ Below w.heap.size w w'
theorem TreeM.mono {w : World} {B B' : Nat → Prop} {t : RT} {nd : RNd} (h : TreeM w B t nd) (hB : ∀ g, B g → B' g) : TreeM w B' t nd := TreeM.kept (fun _ _ _ => rfl) (fun g h _ => hB g h) t nd h
/-- A thing, as the document's reader reads it: a sign that follows nothing is told. -/
def atomX (G : List UInt8 → PR RT) : List UInt8 → PR RT
  | [] => .error (0, 0)
  | c :: r => if signB c then .error (r.length + 1, 9) else thingR withW notW orW G (c :: r)
theorem atom_results (w : World) (b t : Nat) (arr : Array Value) (s : ByteArray) (a dp er bd : Int) (nd : RNd) (h : Ss w b s a dp er bd) (h' : Rsn w t nd) (h2 : arr[2]?.getD undef = (.pointer (some ⟨b, 0, none⟩))) (h3 : arr[3]?.getD undef = (.pointer (some ⟨t, 0, none⟩))) :
    (results Tryd.f57 arr).run Tryd.prog w = .ok (.tuple #[rsv s a dp er bd, nd.val]) w := by
  obtain ⟨c0, c1, c2, c3, c4, -⟩ := h
  obtain ⟨d0, d1, d2, -⟩ := h'
  simp [results, Tryd.results57, go_sem, rsv, RNd.val, c0, c1, c2, c3, c4, d0, d1, d2, h2, h3]
theorem u8_ne2 {x c : UInt8} (h : x ≠ c) : ((x.toNat : Int) == (c.toNat : Int)) = false := by rw [u8_beq2]; simpa using h
end Go.Proofs.YtjjejcgpeefclaaDoor
