/-
  CONTRACTS of layer 8: clone, Len, Has; looks into an array's map.
-/
import Derived.Test.YtjnhaglcigpknaaDoorArM2
import Derived.Test.YtjnhaglcigpknaaDoorOrd
namespace Go.Proofs.YtjnhaglcigpknaaDoor
open Go.RowKit Go.Maps

set_option maxHeartbeats 1000000 in
theorem aclone_any (k n : Int) (s : ByteArray) (w : World) (hs : s.size ≤ 1000000) :
    Calls Tryd.prog 32 #[.agg #[.int .i64 k, .int .i64 n, .string s]] w fun e w' => e = .returned (.agg #[.int .i64 k, .int .i64 n, .string s]) ∧ Below w.heap.size w w' := by
  have CL := Lib.hid fun W => clone_any s W (by omega)
  go_enter Tryd.func32, Tryd.ntmps32
  go_wp2_with fail
  refine (CL.out _).mono ?_
  rintro e w1 ⟨rfl, hb1⟩
  obtain ⟨hc, hf⟩ := bcell hb1
  have hb2 := below_new (below_new hb1)
  have HB := Lib.hid hb2
  have d0 : w1.cell? ⟨w.heap.size, 0, none⟩ = some (.int .i64 k) := (hc w.heap.size 0 (by simp; omega)).trans (by simp [go_sem])
  have d1 : w1.cell? ⟨w.heap.size, 1, none⟩ = some (.int .i64 n) := (hc w.heap.size 1 (by simp; omega)).trans (by simp [go_sem])
  have d2 : w1.cell? ⟨w.heap.size, 2, none⟩ = some (.string s) := (hc w.heap.size 2 (by simp; omega)).trans (by simp [go_sem])
  have f2 : w1.frozen? ⟨w.heap.size, 2, none⟩ = false := (hf w.heap.size 2 (by simp; omega)).trans (by simp [go_sem])
  have e0 : w1.cell? ⟨w.heap.size + 1, 0, none⟩ = some (.int .i64 0) := (hc (w.heap.size + 1) 0 (by simp)).trans (by simp [go_sem])
  have e1 : w1.cell? ⟨w.heap.size + 1, 1, none⟩ = some (.int .i64 0) := (hc (w.heap.size + 1) 1 (by simp)).trans (by simp [go_sem])
  have e2 : w1.cell? ⟨w.heap.size + 1, 2, none⟩ = some (.string ⟨#[]⟩) := (hc (w.heap.size + 1) 2 (by simp)).trans (by simp [go_sem])
  have g0 : w1.frozen? ⟨w.heap.size + 1, 0, none⟩ = false := (hf (w.heap.size + 1) 0 (by simp)).trans (by simp [go_sem])
  have g1 : w1.frozen? ⟨w.heap.size + 1, 1, none⟩ = false := (hf (w.heap.size + 1) 1 (by simp)).trans (by simp [go_sem])
  have g2 : w1.frozen? ⟨w.heap.size + 1, 2, none⟩ = false := (hf (w.heap.size + 1) 2 (by simp)).trans (by simp [go_sem])
  have q0 := World.cell?_setCell_same w1 ⟨w.heap.size, 2, none⟩ (.string s) d2
  have p0 : ∀ (u : World) (x y z a0 a1 a2 : Value) (b : Nat), u.cell? ⟨b, 0, none⟩ = some a0 → u.cell? ⟨b, 1, none⟩ = some a1 → u.cell? ⟨b, 2, none⟩ = some a2 → (((u.setCell ⟨b, 0, none⟩ x).setCell ⟨b, 1, none⟩ y).setCell ⟨b, 2, none⟩ z).cell? ⟨b, 0, none⟩ = some x ∧ (((u.setCell ⟨b, 0, none⟩ x).setCell ⟨b, 1, none⟩ y).setCell ⟨b, 2, none⟩ z).cell? ⟨b, 1, none⟩ = some y ∧ (((u.setCell ⟨b, 0, none⟩ x).setCell ⟨b, 1, none⟩ y).setCell ⟨b, 2, none⟩ z).cell? ⟨b, 2, none⟩ = some z := by
    intro u x y z a0 a1 a2 b h0 h1 h2
    simp [go_sem, h0, h1, h2]
  obtain ⟨r0, r1, r2⟩ := p0 (w1.setCell ⟨w.heap.size, 2, none⟩ (.string s)) (.int .i64 k) (.int .i64 n) (.string s) _ _ _ (w.heap.size + 1) (by simpa [go_sem] using e0) (by simpa [go_sem] using e1) (by simpa [go_sem] using e2)
  clear hb1 hb2 hc hf p0
  go_wp2_with fail
  refine bodyPost_ret (v := .agg #[.int .i64 k, .int .i64 n, .string s]) ?_ rfl ⟨rfl, ?_⟩
  · simp [results, Tryd.results32, go_sem, r0, r1, r2]
  · exact (((HB.out.setCell (p := ⟨w.heap.size, 2, none⟩) (Nat.le_refl _) _).setCell (p := ⟨w.heap.size + 1, 0, none⟩) (by simp) _).setCell (p := ⟨w.heap.size + 1, 1, none⟩) (by simp) _).setCell (p := ⟨w.heap.size + 1, 2, none⟩) (by simp) _
section
variable {w w' : World} {b : Nat} {mm : Option Nat} {L : List En}
theorem look_nil (s : ByteArray) (hs : s.size ≤ 1000000) (w : World) : (Instr.lookup 40 (.map none) (.string s) false).run Tryd.prog w = .ok (.pointer none) w := by
  have hk := WideMaps.keyOf_string_mk Tryd.underlying9 (s := s) (by unfold maxLen; omega)
  have K := string_keyed Tryd.underlying9
  rcases K.find w hk [] (by simp) with ⟨f1, _⟩ | ⟨j, e, _, f2, _⟩
  · simp [Instr.lookup, run_underlying Tryd.underlying40, Tryd.zeroValue41 w, K.check w _ hk, f1, Result.andThen]
  · simp at f2
theorem AV.look (h : AV w b mm L) (s : ByteArray) (hs : s.size ≤ 1000000) :
    (Instr.lookup 40 (.map mm) (.string s) false).run Tryd.prog w = .ok (ptr (fnd L s.data.toList)) w := by
  cases mm with
  | none =>
    have hL : L = [] := h.map
    rw [hL, fnd_nil]
    exact look_nil s hs w
  | some mn =>
    obtain ⟨D, hm, _, _, hf⟩ := h.map
    obtain ⟨v, ps, hr, hv⟩ := hm.lookup (string_keyed Tryd.underlying9) Tryd.underlying40 (Tryd.zeroValue41 w) ptrE_none (WideMaps.keyOf_string_mk Tryd.underlying9 (s := s) (by unfold maxLen; omega))
    rw [hr, ← hf]
    rw [dat_get] at hv
    cases hg : getD D s.data.toList with
    | none => rw [hg] at hv; rw [ptrE_nil hv]; rfl
    | some b => rw [hg] at hv; rw [ptrE_lit hv]; rfl
theorem AV.mlen (h : AV w b mm L) (ty : TypeId) : (Builtin.len_ #[40] ty #[.map mm]).run Tryd.prog w = .ok (.int .i64 (L.length : Int)) w := by
  cases mm with
  | none =>
    have hL : L = [] := h.map
    rw [hL]
    exact Maps.len_nil Tryd.underlying40 ty
  | some mn =>
    obtain ⟨D, hm, _, hl, _⟩ := h.map
    have := hm.len Tryd.underlying40 ty
    rw [dat_size, hl] at this
    exact this
theorem len_any (h : AV w b mm L) : Calls Tryd.prog 10 #[.pointer (some ⟨b, 0, none⟩)] w fun e w' => e = .returned (.int .i64 (L.length : Int)) ∧ Below w.heap.size w w' := by
  have hc0 : w.cell? ⟨b, 0, none⟩ = some (.map mm) := block_cell h.blk
  have hl := h.mlen 3
  clear h
  go_enter Tryd.func10, Tryd.ntmps10
  go_wp2
  go_ret
  exact ⟨rfl, Below.refl _ _⟩
theorem has_any (h : AV w b mm L) (s : ByteArray) (hs : s.size ≤ 1000000) : Calls Tryd.prog 41 #[.pointer (some ⟨b, 0, none⟩), .string s] w fun e w' => e = .returned (.bool (fnd L s.data.toList).isSome) ∧ Below w.heap.size w w' := by
  have hc0 : w.cell? ⟨b, 0, none⟩ = some (.map mm) := block_cell h.blk
  have hl := h.look s hs
  clear h
  cases hf : fnd L s.data.toList with
  | none =>
    rw [hf, ptr_none] at hl
    go_enter Tryd.func41, Tryd.ntmps41
    go_wp2
    go_ret
    exact ⟨rfl, Below.refl _ _⟩
  | some g =>
    rw [hf, ptr_some] at hl
    go_enter Tryd.func41, Tryd.ntmps41
    go_wp2
    go_ret
    exact ⟨rfl, Below.refl _ _⟩
end
end Go.Proofs.YtjnhaglcigpknaaDoor
