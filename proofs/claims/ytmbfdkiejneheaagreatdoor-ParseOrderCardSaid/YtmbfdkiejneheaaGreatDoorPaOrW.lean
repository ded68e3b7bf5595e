/-
 THE WALK of the law ParseOrder: whatever the numbers, it returns true and writes to nothing that was there.
-/
import Derived.Test.YtmbfdkiejneheaaGreatDoorPaOrM
namespace Go.Proofs.YtmbfdkiejneheaaGreatDoor
open Go.RowKit

/-- The three lists of the law. -/
structure Ls (w : World) (g : Nat) : Prop where
 s : ∀ a, a < 10 → w.cell? ⟨g, a, none⟩ = some (.string ⟨(sg a).toArray⟩)
 l : ∀ a, a < 10 → w.cell? ⟨g + 1, a, none⟩ = some (.int .i64 (lv a : Int))
 o : ∀ a, a < 10 → w.cell? ⟨g + 1 + 1, a, none⟩ = some (.string ⟨(opO a).toArray⟩)
 lt : g + 1 + 1 < w.heap.size
theorem Ls.kept {w w' : World} {g : Nat} (h : Ls w g) (hb : Below w.heap.size w w') : Ls w' g :=
 ⟨fun a ha => (World.cell?_of_block (a := ⟨g, a, none⟩) (hb.block g (by have := h.lt; omega))).trans (h.s a ha), fun a ha => (World.cell?_of_block (a := ⟨g + 1, a, none⟩) (hb.block (g + 1) (by have := h.lt; omega))).trans (h.l a ha), fun a ha => (World.cell?_of_block (a := ⟨g + 1 + 1, a, none⟩) (hb.block (g + 1 + 1) h.lt)).trans (h.o a ha), by have := h.lt; have := hb.size; omega⟩
theorem Ls.drew {w : World} {g : Nat} (h : Ls w g) : Ls w.drew g := ⟨h.s, h.l, h.o, h.lt⟩
theorem Ls.alloc {w : World} {g : Nat} (h : Ls w g) (o : Obj) : Ls (w.alloc o) g := h.kept ((Below.refl _ _).alloc (Nat.le_refl _) o)
theorem Ls.new (w : World) : Ls (((w.alloc (.cells #[.string ⟨#[124, 124]⟩, .string ⟨#[38, 38]⟩, .string ⟨#[126]⟩, .string ⟨#[60]⟩, .string ⟨#[43]⟩, .string ⟨#[42]⟩, .string ⟨#[45]⟩, .string ⟨#[47]⟩, .string ⟨#[37]⟩, .string ⟨#[33, 126]⟩] 9)).alloc (.cells #[.int .i64 1, .int .i64 2, .int .i64 3, .int .i64 4, .int .i64 5, .int .i64 6, .int .i64 5, .int .i64 6, .int .i64 6, .int .i64 3] 3)).alloc (.cells #[.string ⟨#[111, 114]⟩, .string ⟨#[97, 110, 100]⟩, .string ⟨#[109, 97, 116, 99, 104]⟩, .string ⟨#[108, 101, 115, 115]⟩, .string ⟨#[97, 100, 100]⟩, .string ⟨#[109, 117, 108]⟩, .string ⟨#[115, 117, 98]⟩, .string ⟨#[100, 105, 118]⟩, .string ⟨#[109, 111, 100]⟩, .string ⟨#[110, 111, 109, 97, 116, 99, 104]⟩] 9)) w.heap.size := by
 have h1 := Below.heap_alloc (w.alloc (.cells #[.string ⟨#[124, 124]⟩, .string ⟨#[38, 38]⟩, .string ⟨#[126]⟩, .string ⟨#[60]⟩, .string ⟨#[43]⟩, .string ⟨#[42]⟩, .string ⟨#[45]⟩, .string ⟨#[47]⟩, .string ⟨#[37]⟩, .string ⟨#[33, 126]⟩] 9)) (.cells #[.int .i64 1, .int .i64 2, .int .i64 3, .int .i64 4, .int .i64 5, .int .i64 6, .int .i64 5, .int .i64 6, .int .i64 6, .int .i64 3] 3) w.heap.size (by simp)
 have h2 := Below.heap_alloc ((w.alloc (.cells #[.string ⟨#[124, 124]⟩, .string ⟨#[38, 38]⟩, .string ⟨#[126]⟩, .string ⟨#[60]⟩, .string ⟨#[43]⟩, .string ⟨#[42]⟩, .string ⟨#[45]⟩, .string ⟨#[47]⟩, .string ⟨#[37]⟩, .string ⟨#[33, 126]⟩] 9)).alloc (.cells #[.int .i64 1, .int .i64 2, .int .i64 3, .int .i64 4, .int .i64 5, .int .i64 6, .int .i64 5, .int .i64 6, .int .i64 6, .int .i64 3] 3)) (.cells #[.string ⟨#[111, 114]⟩, .string ⟨#[97, 110, 100]⟩, .string ⟨#[109, 97, 116, 99, 104]⟩, .string ⟨#[108, 101, 115, 115]⟩, .string ⟨#[97, 100, 100]⟩, .string ⟨#[109, 117, 108]⟩, .string ⟨#[115, 117, 98]⟩, .string ⟨#[100, 105, 118]⟩, .string ⟨#[109, 111, 100]⟩, .string ⟨#[110, 111, 109, 97, 116, 99, 104]⟩] 9) w.heap.size (by simp only [World.size_alloc]; omega)
 have h3 := Below.heap_alloc ((w.alloc (.cells #[.string ⟨#[124, 124]⟩, .string ⟨#[38, 38]⟩, .string ⟨#[126]⟩, .string ⟨#[60]⟩, .string ⟨#[43]⟩, .string ⟨#[42]⟩, .string ⟨#[45]⟩, .string ⟨#[47]⟩, .string ⟨#[37]⟩, .string ⟨#[33, 126]⟩] 9)).alloc (.cells #[.int .i64 1, .int .i64 2, .int .i64 3, .int .i64 4, .int .i64 5, .int .i64 6, .int .i64 5, .int .i64 6, .int .i64 6, .int .i64 3] 3)) (.cells #[.string ⟨#[111, 114]⟩, .string ⟨#[97, 110, 100]⟩, .string ⟨#[109, 97, 116, 99, 104]⟩, .string ⟨#[108, 101, 115, 115]⟩, .string ⟨#[97, 100, 100]⟩, .string ⟨#[109, 117, 108]⟩, .string ⟨#[115, 117, 98]⟩, .string ⟨#[100, 105, 118]⟩, .string ⟨#[109, 111, 100]⟩, .string ⟨#[110, 111, 109, 97, 116, 99, 104]⟩] 9) (w.heap.size + 1) (by simp only [World.size_alloc]; omega)
 have k1 := heap_alloc_new w (.cells #[.string ⟨#[124, 124]⟩, .string ⟨#[38, 38]⟩, .string ⟨#[126]⟩, .string ⟨#[60]⟩, .string ⟨#[43]⟩, .string ⟨#[42]⟩, .string ⟨#[45]⟩, .string ⟨#[47]⟩, .string ⟨#[37]⟩, .string ⟨#[33, 126]⟩] 9)
 have k2 := heap_alloc_new (w.alloc (.cells #[.string ⟨#[124, 124]⟩, .string ⟨#[38, 38]⟩, .string ⟨#[126]⟩, .string ⟨#[60]⟩, .string ⟨#[43]⟩, .string ⟨#[42]⟩, .string ⟨#[45]⟩, .string ⟨#[47]⟩, .string ⟨#[37]⟩, .string ⟨#[33, 126]⟩] 9)) (.cells #[.int .i64 1, .int .i64 2, .int .i64 3, .int .i64 4, .int .i64 5, .int .i64 6, .int .i64 5, .int .i64 6, .int .i64 6, .int .i64 3] 3)
 have k3 := heap_alloc_new ((w.alloc (.cells #[.string ⟨#[124, 124]⟩, .string ⟨#[38, 38]⟩, .string ⟨#[126]⟩, .string ⟨#[60]⟩, .string ⟨#[43]⟩, .string ⟨#[42]⟩, .string ⟨#[45]⟩, .string ⟨#[47]⟩, .string ⟨#[37]⟩, .string ⟨#[33, 126]⟩] 9)).alloc (.cells #[.int .i64 1, .int .i64 2, .int .i64 3, .int .i64 4, .int .i64 5, .int .i64 6, .int .i64 5, .int .i64 6, .int .i64 6, .int .i64 3] 3)) (.cells #[.string ⟨#[111, 114]⟩, .string ⟨#[97, 110, 100]⟩, .string ⟨#[109, 97, 116, 99, 104]⟩, .string ⟨#[108, 101, 115, 115]⟩, .string ⟨#[97, 100, 100]⟩, .string ⟨#[109, 117, 108]⟩, .string ⟨#[115, 117, 98]⟩, .string ⟨#[100, 105, 118]⟩, .string ⟨#[109, 111, 100]⟩, .string ⟨#[110, 111, 109, 97, 116, 99, 104]⟩] 9)
 simp only [World.size_alloc] at k2 k3
 rw [← h1, ← h2] at k1
 rw [← h3] at k2
 refine ⟨fun a ha => ?_, fun a ha => ?_, fun a ha => ?_, by simp only [World.size_alloc]; omega⟩
 ·
  rw [rg_cell k1]
  have : a = 0 ∨ a = 1 ∨ a = 2 ∨ a = 3 ∨ a = 4 ∨ a = 5 ∨ a = 6 ∨ a = 7 ∨ a = 8 ∨ a = 9 := by omega
  rcases this with rfl | rfl | rfl | rfl | rfl | rfl | rfl | rfl | rfl | rfl <;> rfl
 ·
  rw [rg_cell k2]
  have : a = 0 ∨ a = 1 ∨ a = 2 ∨ a = 3 ∨ a = 4 ∨ a = 5 ∨ a = 6 ∨ a = 7 ∨ a = 8 ∨ a = 9 := by omega
  rcases this with rfl | rfl | rfl | rfl | rfl | rfl | rfl | rfl | rfl | rfl <;> rfl
 ·
  rw [rg_cell k3]
  have : a = 0 ∨ a = 1 ∨ a = 2 ∨ a = 3 ∨ a = 4 ∨ a = 5 ∨ a = 6 ∨ a = 7 ∨ a = 8 ∨ a = 9 := by omega
  rcases this with rfl | rfl | rfl | rfl | rfl | rfl | rfl | rfl | rfl | rfl <;> rfl
theorem sg_len {a : Nat} (h : a < 10) : (sg a).length ≤ 2 := by
 have : a = 0 ∨ a = 1 ∨ a = 2 ∨ a = 3 ∨ a = 4 ∨ a = 5 ∨ a = 6 ∨ a = 7 ∨ a = 8 ∨ a = 9 := by omega
 rcases this with rfl | rfl | rfl | rfl | rfl | rfl | rfl | rfl | rfl | rfl <;> decide
theorem ba_app3 (x y : ByteArray) : (x ++ y).data.toList = x.data.toList ++ y.data.toList := by simp
def ordB (a b : Nat) : ByteArray := ⟨#[66, 69, 71, 73, 78, 123, 120, 32]⟩ ++ ⟨(sg a).toArray⟩ ++ ⟨#[32, 121, 32]⟩ ++ ⟨(sg b).toArray⟩ ++ ⟨#[32, 122, 125]⟩
theorem ordB_eq (a b : Nat) : (ordB a b).data.toList = ordS a b := by
 unfold ordB ordS
 rw [ba_app3, ba_app3, ba_app3, ba_app3]
theorem ordB_size {a b : Nat} (ha : a < 10) (hb : b < 10) : (ordB a b).size ≤ 18 := by
 rw [← ba_sz, ordB_eq]
 unfold ordS
 have := sg_len ha
 have := sg_len hb
 simp only [List.length_append, List.length_cons, List.length_nil]; omega
theorem Ls.put {w : World} {g k : Nat} (h : Ls w g) (hk : g + 1 + 1 < k) (n : An) : Ls (putA w k n) g := by
 have h0 := putA_block (w := w) (g := k) (k := g) (by omega) n
 have h1 := putA_block (w := w) (g := k) (k := g + 1) (by omega) n
 have h2 := putA_block (w := w) (g := k) (k := g + 1 + 1) (by omega) n
 exact ⟨fun a ha => (World.cell?_of_block (a := ⟨g, a, none⟩) h0).trans (h.s a ha), fun a ha => (World.cell?_of_block (a := ⟨g + 1, a, none⟩) h1).trans (h.l a ha), fun a ha => (World.cell?_of_block (a := ⟨g + 1 + 1, a, none⟩) h2).trans (h.o a ha), by rw [putA_size]; exact h.lt⟩
theorem Ls.at {w : World} {g i j : Nat} (h : Ls w g) (hi : i < 10) (hj : j < 10) : w.cell? ⟨g, i, none⟩ = some (.string ⟨(sg i).toArray⟩) ∧ w.cell? ⟨g, j, none⟩ = some (.string ⟨(sg j).toArray⟩) ∧ w.cell? ⟨g + 1 + 1, i, none⟩ = some (.string ⟨(opO i).toArray⟩) ∧ w.cell? ⟨g + 1 + 1, j, none⟩ = some (.string ⟨(opO j).toArray⟩) := ⟨h.s i hi, h.s j hj, h.o i hi, h.o j hj⟩
/-- A node of one kid in memory. -/
structure CellA (w : World) (g : Nat) (m : An) : Prop where
 c0 : w.cell? ⟨g, 0, none⟩ = some (.string m.op)
 c1 : w.cell? ⟨g, 1, none⟩ = some (.string m.tx)
 c2 : w.cell? ⟨g, 2, none⟩ = some (.int .i64 m.pl)
 c3 : w.cell? ⟨g, 3, none⟩ = some (.slice m.kp m.kn m.kc)
theorem TreeP.only {w : World} {B : Nat → Prop} {o x : List UInt8} {p : Nat} {t : PT} {n : An} (h : TreeP w B (.mk o x p [t]) n) :
  ∃ g c m, n = ⟨bs o, bs x, (p : Int), some ⟨g, 0, none⟩, 1, c⟩ ∧ CellA w g m ∧ g < w.heap.size ∧ B g ∧ TreeP w B t m := by
 unfold TreeP at h
 obtain ⟨h1, h2, h0, ns, h3, h4, h5⟩ := h
 unfold TreesP at h5
 obtain ⟨m, rest, rfl, h6, h7⟩ := h5
 unfold TreesP at h7
 subst h7
 obtain ⟨op, tx, pl, kp, kn, kc⟩ := n
 simp only at h1 h2 h0
 subst h1 h2 h0
 rcases h3.2 with ⟨_, e2⟩ | ⟨g, cap, cur, e, _⟩
 · simp at e2
 ·
  unfold An.kids at e h3
  simp only [List.length_cons, List.length_nil, Nat.zero_add] at e h3
  injection e with e1 e2 e3
  subst e1 e2 e3
  have hq : ∀ j, j < 4 → w.cell? ⟨g, j, none⟩ = m.vals[j]? := fun j hj => by
   have := h3.cellAt j (by omega)
   rw [this, anRow_one]
  exact ⟨g, kc, m, rfl, ⟨hq 0 (by omega), hq 1 (by omega), hq 2 (by omega), hq 3 (by omega)⟩, (own_base h3 g rfl).2, h4 g rfl, h6⟩
theorem CellA.kept {w w' : World} {g : Nat} {m : An} (h : CellA w g m) (hb : w'.heap[g]? = w.heap[g]?) : CellA w' g m :=
 ⟨(World.cell?_of_block (a := ⟨g, 0, none⟩) hb).trans h.c0, (World.cell?_of_block (a := ⟨g, 1, none⟩) hb).trans h.c1, (World.cell?_of_block (a := ⟨g, 2, none⟩) hb).trans h.c2, (World.cell?_of_block (a := ⟨g, 3, none⟩) hb).trans h.c3⟩
set_option maxHeartbeats 8000000 in
set_option maxRecDepth 100000 in
theorem order_out (a b : Int) (w : World) (htab : Tabs w) (h0 : a < 0 ∨ 10 ≤ a ∨ b < 0 ∨ 10 ≤ b) :
  Calls Tryz.prog 8 #[.int .i64 a, .int .i64 b] w fun e w' => e = .returned (.bool true) ∧ Below w.heap.size w w' := by
 have AW := kH fun W (hW : Below w.heap.size w W) => awake_any W (htab.next hW)
 have HB0 := kH (Below.refl w.heap.size w)
 have HB1 := kH (((HB0.out.alloc (Nat.le_refl _) (.cells #[.string ⟨#[124, 124]⟩, .string ⟨#[38, 38]⟩, .string ⟨#[126]⟩, .string ⟨#[60]⟩, .string ⟨#[43]⟩, .string ⟨#[42]⟩, .string ⟨#[45]⟩, .string ⟨#[47]⟩, .string ⟨#[37]⟩, .string ⟨#[33, 126]⟩] 9)).alloc (by simp) (.cells #[.int .i64 1, .int .i64 2, .int .i64 3, .int .i64 4, .int .i64 5, .int .i64 6, .int .i64 5, .int .i64 6, .int .i64 6, .int .i64 3] 3)).alloc (by simp only [World.size_alloc]; omega) (.cells #[.string ⟨#[111, 114]⟩, .string ⟨#[97, 110, 100]⟩, .string ⟨#[109, 97, 116, 99, 104]⟩, .string ⟨#[108, 101, 115, 115]⟩, .string ⟨#[97, 100, 100]⟩, .string ⟨#[109, 117, 108]⟩, .string ⟨#[115, 117, 98]⟩, .string ⟨#[100, 105, 118]⟩, .string ⟨#[109, 111, 100]⟩, .string ⟨#[110, 111, 109, 97, 116, 99, 104]⟩] 9))
 clear htab
 have hc : (a < 0) ∨ (¬ a < 0 ∧ 10 ≤ a) ∨ (¬ a < 0 ∧ ¬ 10 ≤ a ∧ b < 0) ∨ (¬ a < 0 ∧ ¬ 10 ≤ a ∧ ¬ b < 0 ∧ 10 ≤ b) := by omega
 clear h0
 rcases hc with h1 | ⟨h1, h2⟩ | ⟨h1, h2, h3⟩ | ⟨h1, h2, h3, h4⟩
 all_goals
  go_enter Tryz.func8, Tryz.ntmps8
  go_wp2_with fail
  generalize ((w.alloc (.cells #[.string ⟨#[124, 124]⟩, .string ⟨#[38, 38]⟩, .string ⟨#[126]⟩, .string ⟨#[60]⟩, .string ⟨#[43]⟩, .string ⟨#[42]⟩, .string ⟨#[45]⟩, .string ⟨#[47]⟩, .string ⟨#[37]⟩, .string ⟨#[33, 126]⟩] 9)).alloc (.cells #[.int .i64 1, .int .i64 2, .int .i64 3, .int .i64 4, .int .i64 5, .int .i64 6, .int .i64 5, .int .i64 6, .int .i64 6, .int .i64 3] 3)).alloc (.cells #[.string ⟨#[111, 114]⟩, .string ⟨#[97, 110, 100]⟩, .string ⟨#[109, 97, 116, 99, 104]⟩, .string ⟨#[108, 101, 115, 115]⟩, .string ⟨#[97, 100, 100]⟩, .string ⟨#[109, 117, 108]⟩, .string ⟨#[115, 117, 98]⟩, .string ⟨#[100, 105, 118]⟩, .string ⟨#[109, 111, 100]⟩, .string ⟨#[110, 111, 109, 97, 116, 99, 104]⟩] 9) = w1 at *
  refine (AW.out _ HB1.out).mono ?_
  rintro e w3 ⟨rfl, hb3⟩
  have HB3 := kH (HB1.out.trans (hb3.mono HB1.out.size))
  clear hb3 HB1
  go_wp2_with fail
  go_ret
  exact ⟨rfl, HB3.out⟩
end Go.Proofs.YtmbfdkiejneheaaGreatDoor
