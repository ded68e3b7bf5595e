/-
  CONTRACTS of layer 8's Set and At.
-/
import Derived.Test.YtjnhaglcigpknaaDoorArW3
namespace Go.Proofs.YtjnhaglcigpknaaDoor
open Go.RowKit Go.Maps

section
variable {w w' : World} {b : Nat} {mm : Option Nat} {F : Nat → Prop} {P : List Pr}
/-- Where at's entry lies. -/
theorem at_ent {L : List En} {s : ByteArray} {g : Nat} {mm' : Option Nat} {W w8 : World} (h : AV W b mm L) (hat : (fnd L s.data.toList = some g ∧ mm' = mm ∧ AV w8 b mm L ∧ Below W.heap.size W w8) ∨ (fnd L s.data.toList = none ∧ W.heap.size ≤ g ∧ AV w8 b mm' (L ++ [⟨s, zc, g⟩]) ∧ Oth (Own b mm L) W w8 ∧ MmOk W mm mm')) :
    ∃ (A B : List En) (c : Ce), AV w8 b mm' (A ++ ⟨s, c, g⟩ :: B) ∧ Oth (Own b mm L) W w8 ∧ (∀ k, Own b mm' (A ++ ⟨s, c, g⟩ :: B) k → Own b mm L k ∨ W.heap.size ≤ k) ∧ (∀ t, cont (A ++ ⟨s, t, g⟩ :: B) = putP (cont L) s t) ∧ (Own b mm L g ∨ W.heap.size ≤ g) ∧
      ((fnd L s.data.toList = some g ∧ (s, c) ∈ cont L) ∨ (fnd L s.data.toList = none ∧ c = zc)) := by
  rcases hat with ⟨h1, rfl, h3, h4⟩ | ⟨h1, h2, h3, h4, h5⟩
  · obtain ⟨A, x, B, rfl, hx1, rfl, hx2⟩ := fnd_some h1
    obtain ⟨xk, xc, xg⟩ := x
    have hk : xk = s := WideShapes.bytes_inj hx1
    subst hk
    refine ⟨A, B, xc, h3, Oth.of_below h4 (Nat.le_refl _), fun k hk => .inl hk, fun t => (putP_mid h3.dis t).symm, .inl (.inr (.inr ⟨_, List.mem_append_right _ (List.mem_cons_self ..), rfl⟩)), .inl ⟨h1, by simp [cont]⟩⟩
  · refine ⟨L, [], zc, h3, h4, ?_, fun t => (putP_new h1 t g).symm, .inr h2, .inr ⟨h1, rfl⟩⟩
    rintro k (rfl | hk | ⟨e, he, rfl⟩)
    · exact .inl (.inl rfl)
    · rcases h5 with rfl | ⟨m, rfl, hm⟩
      · exact .inl (.inr (.inl hk))
      · injection hk with hk; subst hk; exact .inr hm
    · rcases List.mem_append.1 he with he | he
      · exact .inl (.inr (.inr ⟨e, he, rfl⟩))
      · simp at he; subst he; exact .inr h2
theorem oth_cell {G : Nat → Prop} {W w8 : World} (h : Oth G W w8) {k o : Nat} (hk : k < W.heap.size) (hn : ¬ G k) : w8.cell? ⟨k, o, none⟩ = W.cell? ⟨k, o, none⟩ := World.cell?_of_block (w := W) (h.block k hk hn)
def SeR (F : Nat → Prop) (w : World) (b : Nat) (P : List Pr) (w' : World) : Prop := AF (Fn F w) w' b P ∧ Oth F w w'
theorem box3 {k n : Int} {s : ByteArray} (w : World) (T : TypeId) : (w.alloc (.cells #[.int .i64 k, .int .i64 n, .string s] T)).cell? ⟨w.heap.size, 0, none⟩ = some (.int .i64 k) ∧ (w.alloc (.cells #[.int .i64 k, .int .i64 n, .string s] T)).cell? ⟨w.heap.size, 1, none⟩ = some (.int .i64 n) ∧ (w.alloc (.cells #[.int .i64 k, .int .i64 n, .string s] T)).cell? ⟨w.heap.size, 2, none⟩ = some (.string s) := ⟨by simp [go_sem], by simp [go_sem], by simp [go_sem]⟩
set_option maxHeartbeats 4000000 in
set_option maxRecDepth 100000 in
theorem aset_any (h : AF F w b P) (s : ByteArray) (hs : s.size ≤ 1000000) (t : Ce) (ht : t.s.size ≤ 1000000) (hl : P.length + 1 ≤ 1000) :
    Calls Tryd.prog 16 #[.pointer (some ⟨b, 0, none⟩), .string s, .agg #[.int .i64 t.k, .int .i64 t.n, .string t.s]] w fun e w' => e = .returned (.tuple #[]) ∧ SeR F w b (putP P s t) w' := by
  obtain ⟨mm, L, hA, rfl, hF⟩ := h
  rw [cont_len] at hl
  obtain ⟨tk, tn, ts⟩ := t
  simp only at *
  have CA := Lib.hid fun W (hb : Below w.heap.size w W) => at_any (hA.next hb) s hs hl
  have CK := Lib.hid fun W => aclone_any tk tn ts W ht
  have HA := Lib.hid hA
  have HF := Lib.hid hF
  have HOL := Lib.hid fun k (hk : Own b mm L k) => hA.own_lt hk
  have hba : Below w.heap.size w (w.alloc (.cells #[.int .i64 tk, .int .i64 tn, .string ts] 46)) := (Below.refl _ _).alloc (Nat.le_refl _) _
  have hbx := box3 (k := tk) (n := tn) (s := ts) w 46
  have hsz : w.heap.size < (w.alloc (.cells #[.int .i64 tk, .int .i64 tn, .string ts] 46)).heap.size := by simp
  clear hA hF ht
  go_enter Tryd.func16, Tryd.ntmps16
  go_wp2_with fail
  generalize w.alloc (.cells #[.int .i64 tk, .int .i64 tn, .string ts] 46) = W1 at *
  refine wp_region_held_drew (S := fun w' => w'.cell? ⟨w.heap.size, 0, none⟩ = some (.int .i64 tk) ∧ w'.cell? ⟨w.heap.size, 1, none⟩ = some (.int .i64 tn) ∧ w'.cell? ⟨w.heap.size, 2, none⟩ = some (.string ts)) (by kernel_rfl) (hbx) (fun hHeld => ?_)
  refine wpAnyH_take (i := 0) (oi := _) (v := ?_) rfl (by kernel_rfl) (by kernel_rfl) (by kernel_rfl) (fun _ _ _ h => h) (Or.inl ⟨by rfl, ?_⟩) (by assumption) ?_
  rotate_left
  · (intro w hSw; (try dsimp only at hSw); go_simp; try with_reducible rfl)
  try simp only [List.getElem_toArray, List.getElem_cons_zero, Act.put, List.setIfInBounds_toArray, List.set_cons_zero, List.set_cons_succ]
  refine wpAnyH_take (i := 1) (oi := _) (v := ?_) rfl (by kernel_rfl) (by kernel_rfl) (by kernel_rfl) (fun _ _ _ h => h) (Or.inl ⟨by rfl, ?_⟩) (by assumption) ?_
  rotate_left
  · (intro w hSw; (try dsimp only at hSw); go_simp; try with_reducible rfl)
  try simp only [List.getElem_toArray, List.getElem_cons_zero, List.getElem_cons_succ, Act.put, List.setIfInBounds_toArray, List.set_cons_zero, List.set_cons_succ]
  refine wpAnyH_take (i := 3) (oi := _) (v := ?_) rfl (by kernel_rfl) (by kernel_rfl) (by kernel_rfl) (fun _ _ _ h => h) (Or.inl ⟨by rfl, ?_⟩) (by assumption) ?_
  rotate_left
  · (intro w hSw; (try dsimp only at hSw); go_simp; try with_reducible rfl)
  try simp only [List.getElem_toArray, List.getElem_cons_zero, List.getElem_cons_succ, Act.put, List.setIfInBounds_toArray, List.set_cons_zero, List.set_cons_succ]
  refine wpAnyH_ready (rs := [2]) (by kernel_rfl) (by simp) ?_
  refine AllReadyH.cons (o := _) rfl (fun K hK => ?_) AllReadyH.nil
  go_simp
  refine (CA.out _ hba.drew).mono ?_
  rintro e w8 ⟨g, mm', rfl, hat⟩
  obtain ⟨A, B, c, hv, hO, hOw, hcont, hgo, -⟩ := at_ent (HA.out.next hba.drew) hat
  have hnb : ¬ Own b mm L w.heap.size := fun hk => by have := HOL.out _ hk; omega
  have hbs : w.heap.size < W1.drew.heap.size := hsz
  have k8 : w8.cell? ⟨w.heap.size, 0, none⟩ = some (.int .i64 tk) ∧ w8.cell? ⟨w.heap.size, 1, none⟩ = some (.int .i64 tn) ∧ w8.cell? ⟨w.heap.size, 2, none⟩ = some (.string ts) := ⟨(oth_cell hO hbs hnb).trans hbx.1, (oth_cell hO hbs hnb).trans hbx.2.1, (oth_cell hO hbs hnb).trans hbx.2.2⟩
  have HV := Lib.hid hv
  have HO := Lib.hid hO
  have HOW := Lib.hid (And.intro hOw (And.intro hcont hgo))
  clear hat hv hO hOw hcont hgo
  refine hK.out _ _ (k8) (fun hHeld => ?_)
  clear hK K
  try simp only [List.getElem_toArray, List.getElem_cons_zero, List.getElem_cons_succ, Act.put, List.setIfInBounds_toArray, List.set_cons_zero, List.set_cons_succ]
  refine wpAnyH_ready (rs := [4]) (by kernel_rfl) (by simp) ?_
  refine AllReadyH.cons (o := _) rfl (fun K hK => ?_) AllReadyH.nil
  go_simp
  refine (CK.out _).mono ?_
  rintro e w9 ⟨rfl, hb9⟩
  have HV9 := Lib.hid (HV.out.next hb9)
  have HO9 := Lib.hid (HO.out.next hb9)
  have hent := (((Lnk_append A (⟨s, c, g⟩ :: B) none none).1 HV9.out.lnk).2).1
  have d1 : w9.cell? ⟨g, 1, none⟩ = some (.int .i64 c.k) := block_cell hent
  have d2 : w9.cell? ⟨g, 2, none⟩ = some (.int .i64 c.n) := block_cell hent
  have d3 : w9.cell? ⟨g, 3, none⟩ = some (.string c.s) := block_cell hent
  have f1 : w9.frozen? ⟨g, 1, none⟩ = false := block_frozen hent
  have f2 : w9.frozen? ⟨g, 2, none⟩ = false := block_frozen hent
  have f3 : w9.frozen? ⟨g, 3, none⟩ = false := block_frozen hent
  have hbs9 : w.heap.size < w8.heap.size := Nat.lt_of_lt_of_le hsz HO.out.size
  have k9 : w9.cell? ⟨w.heap.size, 0, none⟩ = some (.int .i64 tk) ∧ w9.cell? ⟨w.heap.size, 1, none⟩ = some (.int .i64 tn) ∧ w9.cell? ⟨w.heap.size, 2, none⟩ = some (.string ts) := ⟨(hb9.cell (p := ⟨w.heap.size, 0, none⟩) hbs9).trans k8.1, (hb9.cell (p := ⟨w.heap.size, 1, none⟩) hbs9).trans k8.2.1, (hb9.cell (p := ⟨w.heap.size, 2, none⟩) hbs9).trans k8.2.2⟩
  have hgx : g ≠ w.heap.size := by
    rcases HOW.out.2.2 with h1 | h1
    · have := HOL.out _ h1; omega
    · have := hsz; have h2 : W1.heap.size ≤ g := h1; omega
  clear hent hb9 HV HO
  refine hK.out _ _ (k9) (fun hHeld => ?_)
  clear hK K
  try simp only [List.getElem_toArray, List.getElem_cons_zero, List.getElem_cons_succ, Act.put, List.setIfInBounds_toArray, List.set_cons_zero, List.set_cons_succ]
  refine wpAnyH_take (i := 5) (oi := _) (v := ?_) rfl (by kernel_rfl) (by kernel_rfl) (by kernel_rfl) (fun _ _ _ h => h) (Or.inl ⟨by rfl, ?_⟩) (by assumption) ?_
  rotate_left
  · (intro w hSw; (try dsimp only at hSw); go_simp; try with_reducible rfl)
  try simp only [List.getElem_toArray, List.getElem_cons_zero, List.getElem_cons_succ, Act.put, List.setIfInBounds_toArray, List.set_cons_zero, List.set_cons_succ]
  refine wpAnyH_take (i := 6) (oi := _) (v := ?_) rfl (by kernel_rfl) (by kernel_rfl) (by kernel_rfl) (fun _ _ _ h => h) (Or.inl ⟨by rfl, ?_⟩) (by assumption) ?_
  rotate_left
  · (intro w hSw; (try dsimp only at hSw); go_simp; try with_reducible rfl)
  try simp only [List.getElem_toArray, List.getElem_cons_zero, List.getElem_cons_succ, Act.put, List.setIfInBounds_toArray, List.set_cons_zero, List.set_cons_succ]
  refine wpAnyH_ready (rs := [7]) (by kernel_rfl) (by simp) ?_
  refine AllReadyH.cons (o := _) rfl (fun K hK => ?_) AllReadyH.nil
  go_simp
  refine hK.out _ _ (⟨by simpa [go_sem, hgx] using k9.1, by simpa [go_sem, hgx] using k9.2.1, by simpa [go_sem, hgx] using k9.2.2⟩) (fun hHeld => ?_)
  clear hK K
  try simp only [List.getElem_toArray, List.getElem_cons_zero, List.getElem_cons_succ, Act.put, List.setIfInBounds_toArray, List.set_cons_zero, List.set_cons_succ]
  refine wpAnyH_done (by kernel_rfl) ?_ _
  have HE : Hid (SeR F w b (putP (cont L) s ⟨tk, tn, ts⟩) (put3 w9 g ⟨tk, tn, ts⟩)) := Lib.hid (by
    have hp := HV9.out.put ⟨tk, tn, ts⟩
    have hOw : Oth (Own b mm L) w w9 := (Oth.of_below hba.drew (by omega)).trans HO9.out
    have hgo : Own b mm L g ∨ w.heap.size ≤ g := HOW.out.2.2.imp id (fun h => by have h2 : W1.heap.size ≤ g := h; omega)
    refine ⟨⟨mm', _, hp, HOW.out.2.1 _, fun k hk => ?_⟩, (((hOw.setCell (p := ⟨g, 1, none⟩) hgo _).setCell (p := ⟨g, 2, none⟩) hgo _).setCell (p := ⟨g, 3, none⟩) hgo _).mono HF.out⟩
    have hk' : Own b mm' (A ++ ⟨s, c, g⟩ :: B) k := by
      rcases hk with rfl | hk | ⟨e, he, rfl⟩
      · exact .inl rfl
      · exact .inr (.inl hk)
      · refine .inr (.inr ?_)
        rcases List.mem_append.1 he with he | he
        · exact ⟨e, List.mem_append_left _ he, rfl⟩
        · rcases List.mem_cons.1 he with rfl | he
          · exact ⟨⟨s, c, g⟩, by simp, rfl⟩
          · exact ⟨e, List.mem_append_right _ (List.mem_cons_of_mem _ he), rfl⟩
    rcases HOW.out.1 k hk' with h1 | h1
    · exact .inl (HF.out k h1)
    · have h2 : W1.heap.size ≤ k := h1
      exact .inr (by omega))
  go_wp2_with fail
  first | go_end0 | go_ret
  exact ⟨rfl, HE.out⟩
end
end Go.Proofs.YtjnhaglcigpknaaDoor
