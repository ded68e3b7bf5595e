/-
  CONTRACTS of layer 8's At, Delete.
-/
import Derived.Test.YtjnhaglcigpknaaDoorArW4
namespace Go.Proofs.YtjnhaglcigpknaaDoor
open Go.RowKit Go.Maps

section
variable {w w' : World} {b : Nat} {mm : Option Nat} {F : Nat → Prop} {P : List Pr}
def AkR (F : Nat → Prop) (w : World) (b : Nat) (P : List Pr) (s : ByteArray) (e : Ending) (w' : World) : Prop :=
  ∃ c : Ce, e = .returned (.agg #[.int .i64 c.k, .int .i64 c.n, .string c.s]) ∧ SeR F w b (putP P s c) w' ∧ ((s, c) ∈ P ∨ ((∀ p ∈ P, p.1.data.toList ≠ s.data.toList) ∧ c = zc))
set_option maxHeartbeats 4000000 in
set_option maxRecDepth 100000 in
theorem aat_any (h : AF F w b P) (s : ByteArray) (hs : s.size ≤ 1000000) (hl : P.length + 1 ≤ 1000) (hv : ∀ p ∈ P, p.2.s.size ≤ 1000000) :
    Calls Tryd.prog 28 #[.pointer (some ⟨b, 0, none⟩), .string s] w (AkR F w b P s) := by
  obtain ⟨mm, L, hA, rfl, hF⟩ := h
  rw [cont_len] at hl
  have hba : Below w.heap.size w (w.alloc (.cells #[.int .i64 0, .int .i64 0, .string ⟨#[]⟩] 46)) := (Below.refl _ _).alloc (Nat.le_refl _) _
  have CA := Lib.hid (at_any (hA.next hba) s hs hl)
  have HA := Lib.hid hA
  have HF := Lib.hid hF
  have HV := Lib.hid hv
  have HOL := Lib.hid fun k (hk : Own b mm L k) => hA.own_lt hk
  have hbx := box3 (k := 0) (n := 0) (s := ⟨#[]⟩) w 46
  have hfz : (w.alloc (.cells #[.int .i64 0, .int .i64 0, .string ⟨#[]⟩] 46)).frozen? ⟨w.heap.size, 0, none⟩ = false ∧ (w.alloc (.cells #[.int .i64 0, .int .i64 0, .string ⟨#[]⟩] 46)).frozen? ⟨w.heap.size, 1, none⟩ = false ∧ (w.alloc (.cells #[.int .i64 0, .int .i64 0, .string ⟨#[]⟩] 46)).frozen? ⟨w.heap.size, 2, none⟩ = false := ⟨by simp [go_sem], by simp [go_sem], by simp [go_sem]⟩
  have hsz : (w.alloc (.cells #[.int .i64 0, .int .i64 0, .string ⟨#[]⟩] 46)).heap.size = w.heap.size + 1 := by simp
  clear hA hF hv
  go_enter Tryd.func28, Tryd.ntmps28
  go_wp2_with fail
  refine CA.out.mono ?_
  rintro e w8 ⟨g, mm', rfl, hat⟩
  obtain ⟨A, B, c, hv, hO, hOw, hcont, hgo, hc⟩ := at_ent (HA.out.next hba) hat
  have hnb : ¬ Own b mm L w.heap.size := fun hk => by have := HOL.out _ hk; omega
  have hent := (((Lnk_append A (⟨s, c, g⟩ :: B) none none).1 hv.lnk).2).1
  have d1 : w8.cell? ⟨g, 1, none⟩ = some (.int .i64 c.k) := block_cell hent
  have d2 : w8.cell? ⟨g, 2, none⟩ = some (.int .i64 c.n) := block_cell hent
  have d3 : w8.cell? ⟨g, 3, none⟩ = some (.string c.s) := block_cell hent
  have hcs : c.s.size ≤ 1000000 := by
    rcases hc with ⟨_, h1⟩ | ⟨_, rfl⟩
    · exact HV.out _ h1
    · decide
  have CK := Lib.hid fun W => aclone_any c.k c.n c.s W hcs
  have hbs : w.heap.size < (w.alloc (.cells #[.int .i64 0, .int .i64 0, .string ⟨#[]⟩] 46)).heap.size := by omega
  have e0 := (oth_cell (o := 0) hO hbs hnb).trans hbx.1
  have e1 := (oth_cell (o := 1) hO hbs hnb).trans hbx.2.1
  have e2 := (oth_cell (o := 2) hO hbs hnb).trans hbx.2.2
  have hfb : ∀ o, w8.frozen? ⟨w.heap.size, o, none⟩ = (w.alloc (.cells #[.int .i64 0, .int .i64 0, .string ⟨#[]⟩] 46)).frozen? ⟨w.heap.size, o, none⟩ := fun o => World.frozen?_of_block (hO.block w.heap.size hbs hnb)
  have g0 := (hfb 0).trans hfz.1
  have g1 := (hfb 1).trans hfz.2.1
  have g2 := (hfb 2).trans hfz.2.2
  have hgx : g ≠ w.heap.size := by
    rcases hgo with h1 | h1
    · have := HOL.out _ h1; omega
    · omega
  have HW : Hid (AV w8 b mm' (A ++ ⟨s, c, g⟩ :: B) ∧ Oth (Own b mm L) w w8 ∧ (∀ k, Own b mm' (A ++ ⟨s, c, g⟩ :: B) k → Own b mm L k ∨ w.heap.size + 1 ≤ k) ∧ cont (A ++ ⟨s, c, g⟩ :: B) = putP (cont L) s c ∧ ((s, c) ∈ cont L ∨ ((∀ p ∈ cont L, p.1.data.toList ≠ s.data.toList) ∧ c = zc))) := Lib.hid ⟨hv, (Oth.of_below hba (Nat.le_refl _)).trans hO, fun k hk => (hOw k hk).imp id (fun h => by rw [hsz] at h; exact h), hcont c, hc.imp (fun h => h.2) (fun h => ⟨fun p hp => by
    obtain ⟨y, hy, rfl⟩ := List.mem_map.1 hp
    exact fnd_none.1 h.1 y hy, h.2⟩)⟩
  have hw8 : w.heap.size + 1 ≤ w8.heap.size := by have := hO.size; omega
  clear hat hv hO hOw hcont hgo hc hent hfb hbx hfz hba
  go_wp2_with fail
  refine (CK.out _).mono ?_
  rintro e w9 ⟨rfl, hb9⟩
  have k : ∀ o, w9.cell? ⟨w.heap.size, o, none⟩ = w8.cell? ⟨w.heap.size, o, none⟩ := fun o => hb9.cell (p := ⟨w.heap.size, o, none⟩) (by show w.heap.size < _; omega)
  have kf : ∀ o, w9.frozen? ⟨w.heap.size, o, none⟩ = w8.frozen? ⟨w.heap.size, o, none⟩ := fun o => hb9.frozen (p := ⟨w.heap.size, o, none⟩) (by show w.heap.size < _; omega)
  have x0 := (k 0).trans e0
  have x1 := (k 1).trans e1
  have x2 := (k 2).trans e2
  have y0 := (kf 0).trans g0
  have y1 := (kf 1).trans g1
  have y2 := (kf 2).trans g2
  have HB9 := Lib.hid hb9
  clear hb9 k kf e0 e1 e2 g0 g1 g2
  go_wp2_with fail
  have hset : ∀ j, j ≠ w.heap.size → (((w9.setCell ⟨w.heap.size, 0, none⟩ (.int .i64 c.k)).setCell ⟨w.heap.size, 1, none⟩ (.int .i64 c.n)).setCell ⟨w.heap.size, 2, none⟩ (.string c.s)).heap[j]? = w9.heap[j]? := fun j hj => by
    rw [Below.heap_setCell _ _ _ j hj, Below.heap_setCell _ _ _ j hj, Below.heap_setCell _ _ _ j hj]
  refine bodyPost_ret (v := .agg #[.int .i64 c.k, .int .i64 c.n, .string c.s]) ?_ rfl ⟨c, rfl, ?_, HW.out.2.2.2.2⟩
  · simp [results, Tryd.results28, go_sem, x0, x1, x2]
  · obtain ⟨hv, hO, hOw, hcont, _⟩ := HW.out
    have hO9 := hO.next HB9.out
    refine ⟨⟨mm', _, (hv.next HB9.out).kept fun k hk => hset k (fun e => ?_), hcont, fun k hk => ?_⟩, (((hO9.setCell (p := ⟨w.heap.size, 0, none⟩) (.inr (Nat.le_refl _)) _).setCell (p := ⟨w.heap.size, 1, none⟩) (.inr (Nat.le_refl _)) _).setCell (p := ⟨w.heap.size, 2, none⟩) (.inr (Nat.le_refl _)) _).mono HF.out⟩
    · rcases hOw k hk with h1 | h1
      · have := HOL.out _ h1; omega
      · omega
    · rcases hOw k hk with h1 | h1
      · exact .inl (HF.out k h1)
      · exact .inr (by omega)
end
end Go.Proofs.YtjnhaglcigpknaaDoor
