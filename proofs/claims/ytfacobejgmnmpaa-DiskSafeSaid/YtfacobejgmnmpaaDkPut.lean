/-
  CONTRACT of Put: a name has a new file of these bytes, now and safe.
-/
import Derived.Test.YtfacobejgmnmpaaDkLC
import Derived.Lib.ConvBytes
import Derived.WideKeyEntry
namespace Go.Proofs.Ytfacobejgmnmpaa
open Go.RowKit Go.Maps
open Go.ChangeMaps (setBlock heap_setBlock_same heap_setBlock_other)

variable {Fp : Nat → Prop} {w : World} {Bd mn ms : Nat} {vs : Nat → Value × Value} {d : DS} {m : Nat}
theorem setBlock_grown {W : World} {b : Nat} {es : Array MapEntry} {clock : Nat} {o : Obj} (hb : W.heap[b]? = some (.map es clock)) : W.grownBy (setBlock W b o) (some b) :=
  ⟨rfl, rfl, rfl, by simp [setBlock], fun i _ hi => heap_setBlock_other hb _ (fun e => hi (by rw [e]))⟩
/-- The two steps of 'm[s] = b' where other things are done between: mapEntry, then entryStore. -/
theorem map_put {W : World} {mb : Nat} {l : Dir} (h : W.ownsMap Try.prog 9 ptrE mb m (dat l)) (hm : m ≤ 100000) (s : ByteArray) (hs : s.size ≤ 100000000) (b : Nat) :
    ∃ (v0 : Value) (st : Nat) (W1 : World), (Instr.mapEntry 51 (.map (some mb)) (.string s)).run Try.prog W = .ok (.tuple #[v0, goInt st]) W1 ∧ W.grownBy W1 (some mb) ∧
      ∀ W2 : World, W2.heap[mb]? = W1.heap[mb]? → ∃ W3, (Instr.entryStore 51 (.map (some mb)) (goInt st) (.pointer (some ⟨b, 0, none⟩))).run Try.prog W2 = .ok () W3 ∧ W2.grownBy W3 (some mb) ∧ W3.ownsMap Try.prog 9 ptrE mb (m + 1) (dat (putD l s.data.toList b)) := by
  obtain ⟨w', hru, ho, _⟩ := h.update (string_keyed Try.underlying9) Try.underlying51 (by unfold maxLen; omega) (WideMaps.keyOf_string_mk Try.underlying9 (s := s) (by unfold maxLen; omega)) (ptrE_some b)
  rw [dat_put] at ho
  obtain ⟨es, clock, hb, F, hsz, hD⟩ := h
  obtain ⟨v0, st, es1, clock1, hr1, _, hst⟩ := WideElems.entry_then_store (z := .pointer none) (WideMaps.string_law Try.underlying9) Try.underlying51 (by intro u; kernel_rfl) hb F (WideMaps.keyOf_string_mk Try.underlying9 (s := s) (by unfold maxLen; omega))
  refine ⟨v0, st, _, hr1, setBlock_grown hb, ?_⟩
  intro W2 hW2
  rw [heap_setBlock_same hb] at hW2
  obtain ⟨es', clock', hr2, hu2⟩ := hst W2 (.pointer (some ⟨b, 0, none⟩)) hW2
  have hw' : w' = setBlock W mb (.map es' clock') := by
    rw [hru] at hu2
    injection hu2
  refine ⟨_, hr2, setBlock_grown hW2, ?_⟩
  rw [hw'] at ho
  exact ownsMap_of_block ho ((heap_setBlock_same hW2 _).trans (heap_setBlock_same hb _).symm)
def putF (d : DS) (n : Nm) (b : Nat) (t : Nm) : DS := { d with now := putD d.now n b, safe := putD d.safe n b, fs := upd d.fs b (t, t) }
theorem bytes_row {w : World} (t : ByteArray) (hc : grownCap w t.size 0 5 ≤ maxLen) : Slot (Lib.bytesWorld w 5 t) (.slice (some ⟨w.heap.size, 0, none⟩) t.size (grownCap w t.size 0 5)) t.data.toList := by
  have hge := grownCap_ge w t.size 0 5
  have hl : t.data.toList.length = t.size := by simp
  have hsz : (Lib.bytesCells w 5 t).size = grownCap w t.size 0 5 := by
    unfold Lib.bytesCells
    simp
    have : t.data.size = t.size := rfl
    omega
  refine .inr ⟨w.heap.size, _, Lib.bytesCells w 5 t, by rw [hl], ⟨_, .inr ?_, Lib.bytesWorld_at_new w 5 t⟩, by rw [hl]; exact hge, by rw [hsz]; exact Nat.le_refl _, hc, ?_⟩
  · exact Nat.le_refl _
  · rw [hl]
    unfold Lib.bytesCells
    rw [Array.toList_append]
    have e1 : (t.data.map fun b => Value.int .u8 b.toNat).toList = Lib.byteCells t.data.toList := by simp [Lib.byteCells]
    rw [e1, show t.size = (Lib.byteCells t.data.toList).length by rw [Lib.byteCells_length, hl]]
    exact List.take_left
theorem bytes_below {w : World} (t : ByteArray) : Below w.heap.size w (Lib.bytesWorld w 5 t) :=
  ⟨rfl, rfl, rfl, by rw [Lib.bytesWorld_size]; omega, fun k hk => Lib.bytesWorld_at_old w 5 t k hk⟩
/-- The file is there: its names are laid. -/
theorem put_names (h : DV Fp w Bd mn ms vs d m) (hne : mn ≠ ms) {b : Nat} (hnew : ¬ d.Has b) {t : Nm} {v : Value} (ht : t.length ≤ 1048576) (hF : FileAt Fp w b (t, t) (v, v)) (hv : ∀ c, d.Has c → Apart (v, v) (vs c)) (s : ByteArray) (hs : s.size ≤ 100000000)
    (h1 : d.now.length < m) (h2 : d.safe.length < m) :
    ∃ (v0 v1 : Value) (i0 i1 : Nat) (W1 W2 W3 W4 : World), (Instr.mapEntry 51 (.map (some mn)) (.string s)).run Try.prog w = .ok (.tuple #[v0, goInt i0]) W1 ∧
      (Instr.entryStore 51 (.map (some mn)) (goInt i0) (.pointer (some ⟨b, 0, none⟩))).run Try.prog W1 = .ok () W2 ∧
      (Instr.mapEntry 51 (.map (some ms)) (.string s)).run Try.prog W2 = .ok (.tuple #[v1, goInt i1]) W3 ∧
      (Instr.entryStore 51 (.map (some ms)) (goInt i1) (.pointer (some ⟨b, 0, none⟩))).run Try.prog W3 = .ok () W4 ∧
      DV Fp W4 Bd mn ms (upd vs b (v, v)) (putF d s.data.toList b t) m ∧ Oth Fp w W4 := by
  obtain ⟨v0, i0, W1, r1, g1, k1⟩ := map_put h.mapN h.few s hs b
  obtain ⟨W2, r2, g2, o2⟩ := k1 W1 rfl
  have hg2 := g1.trans g2
  have hlt := h.mapN.lt
  have hD2 := h.turnNew (w' := W2) hne hnew (N := t) (S := t) ht ht hF hv o2 hg2 (h.srtN.put _ _) (k := m) (Nat.le_refl _) (by have := length_putD d.now s.data.toList b; omega) h.few putN_has
  obtain ⟨v1, i1, W3, r3, g3, k3⟩ := map_put hD2.mapS h.few s hs b
  obtain ⟨W4, r4, g4, o4⟩ := k3 W3 rfl
  have hD4 := hD2.turnS (w' := W4) hne o4 (g3.trans g4) (h.srtS.put _ _) (by have := length_putD d.safe s.data.toList b; show (putD d.safe s.data.toList b).length ≤ m; omega) (by
    rintro c ⟨x, hx⟩
    rcases mem_putD.1 hx with e | ⟨e, _⟩
    · simp at e
      exact ⟨s.data.toList, .inl (by rw [e.2]; exact mem_putD.2 (.inl rfl))⟩
    · exact ⟨x, .inr e⟩)
  exact ⟨v0, v1, i0, i1, W1, W2, W3, W4, r1, r2, r3, r4, hD4, ((Oth.refl Fp w).grown hg2 (fun k e => by cases e; exact h.fN)).trans ((Oth.refl Fp W2).grown (g3.trans g4) (fun k e => by cases e; exact h.fS))⟩
set_option maxHeartbeats 4000000 in
set_option maxRecDepth 100000 in
theorem put_dv (h : DV Fp w Bd mn ms vs d m) (hne : mn ≠ ms) (hF : Up Fp w) (s t : ByteArray) (hs : okN s = true) (ht : t.size ≤ 1048576) (h1 : d.now.length < m) (h2 : d.safe.length < m) :
    Calls Try.prog 22 #[.pointer (some ⟨Bd, 0, none⟩), .string s, .string t] w fun e w' => e = .returned (.int .i64 0) ∧ ∃ b, ¬ d.Has b ∧ OpPost Fp w Bd (putF d s.data.toList b t.data.toList) m w' := by
  have hs2 := (okN_len hs).2
  have NM := Lib.hid (fun w => name_any s w (by omega))
  have SC := Lib.hid (fun w => sclone_any s w (by omega))
  have hcap : grownCap w t.size 0 5 ≤ maxLen := grownCap_le_maxLen w t.size 0 5 (by unfold maxLen; omega)
  have hcv := Lib.run_convert_string_bytes (P := Try.prog) w 9 77 5 t Try.underlying9 Try.underlying77 Try.underlying5
  have hslot := bytes_row t hcap
  have hb1 := bytes_below (w := w) t
  have hz1 := Lib.bytesWorld_size w 5 t
  rw [hs] at NM
  generalize Lib.bytesWorld w 5 t = W1 at *
  generalize grownCap w t.size 0 5 = cap at *
  have key : Hid (∀ W3, Below (W1.alloc (.cells #[.slice (some ⟨w.heap.size, 0, none⟩) t.size cap, .slice (some ⟨w.heap.size, 0, none⟩) t.size cap] 79)).heap.size (W1.alloc (.cells #[.slice (some ⟨w.heap.size, 0, none⟩) t.size cap, .slice (some ⟨w.heap.size, 0, none⟩) t.size cap] 79)) W3 →
      W3.cell? ⟨Bd, 0, none⟩ = some (.map (some mn)) ∧ W3.cell? ⟨Bd, 1, none⟩ = some (.map (some ms)) ∧
      ∃ (v0 v1 : Value) (i0 i1 : Nat) (A1 A2 A3 A4 : World), (Instr.mapEntry 51 (.map (some mn)) (.string s)).run Try.prog W3 = .ok (.tuple #[v0, goInt i0]) A1 ∧
      (Instr.entryStore 51 (.map (some mn)) (goInt i0) (.pointer (some ⟨w.heap.size + 1, 0, none⟩))).run Try.prog A1 = .ok () A2 ∧
      (Instr.mapEntry 51 (.map (some ms)) (.string s)).run Try.prog A2 = .ok (.tuple #[v1, goInt i1]) A3 ∧
      (Instr.entryStore 51 (.map (some ms)) (goInt i1) (.pointer (some ⟨w.heap.size + 1, 0, none⟩))).run Try.prog A3 = .ok () A4 ∧
      Hid (∃ b, ¬ d.Has b ∧ OpPost Fp w Bd (putF d s.data.toList b t.data.toList) m A4)) := by
    refine Lib.hid ?_
    intro W3 hb3
    have hDA : DV Fp (W1.alloc (.cells #[.slice (some ⟨w.heap.size, 0, none⟩) t.size cap, .slice (some ⟨w.heap.size, 0, none⟩) t.size cap] 79)) Bd mn ms vs d m := (h.below hb1).alloc _
    have hD3 := hDA.below hb3
    have hnb : W3.heap[w.heap.size + 1]? = some (.cells #[.slice (some ⟨w.heap.size, 0, none⟩) t.size cap, .slice (some ⟨w.heap.size, 0, none⟩) t.size cap] 79 (0, 0)) := by
      rw [hb3.block _ (by simp; omega), ← hz1]
      exact heap_alloc_new W1 _
    have hgb : W3.heap[w.heap.size]? = W1.heap[w.heap.size]? := by
      rw [hb3.block _ (by simp; omega)]
      exact Below.heap_alloc _ _ _ (by omega)
    have hS3 : Slot W3 (.slice (some ⟨w.heap.size, 0, none⟩) t.size cap) t.data.toList := hslot.kept (fun g e => by
      simp [Value.ownBlock] at e
      subst e
      exact hgb)
    have hfile : FileAt Fp W3 (w.heap.size + 1) (t.data.toList, t.data.toList) (.slice (some ⟨w.heap.size, 0, none⟩) t.size cap, .slice (some ⟨w.heap.size, 0, none⟩) t.size cap) :=
      ⟨hnb, hS3, hS3, hF _ (by omega), fun g e => by simp [Value.ownBlock] at e; subst e; exact hF _ (Nat.le_refl _), fun g e => by simp [Value.ownBlock] at e; subst e; exact hF _ (Nat.le_refl _), fun _ _ _ => .inl (Nat.le_refl _)⟩
    have hnew : ¬ d.Has (w.heap.size + 1) := fun e => by have := (h.files _ e).lt; omega
    obtain ⟨v0, v1, i0, i1, A1, A2, A3, A4, r1, r2, r3, r4, hD4, hO4⟩ := put_names hD3 hne hnew (by simpa using ht) hfile (by
      rintro c hc g (e | e) hg
      · simp [Value.ownBlock] at e
        subst e
        have := ((h.files c hc).own hg).2.1
        omega
      · simp [Value.ownBlock] at e
        subst e
        have := ((h.files c hc).own hg).2.1
        omega) s (by omega) h1 h2
    refine ⟨hD3.c0, hD3.c1, v0, v1, i0, i1, A1, A2, A3, A4, r1, r2, r3, r4, Lib.hid ⟨_, hnew, ⟨⟨_, _, _, hne, hD4⟩, ?_⟩⟩⟩
    exact (((Oth.of_below hb1).alloc _).trans (Oth.of_below hb3)).trans hO4
  have ht2 : decide ((1048576 : Int) < (t.size : Int)) = false := by simpa using (by omega : (t.size : Int) ≤ 1048576)
  clear h hF hslot hb1 hs hcap h1 h2 hs2
  go_enter Try.func22, Try.ntmps22
  go_wp2_with fail
  refine (NM.out _).mono ?_
  rintro e w1 ⟨rfl, rfl⟩
  clear NM
  go_wp2_with fail
  refine (SC.out _).mono ?_
  rintro e W3 ⟨rfl, hb3⟩
  obtain ⟨c0, c1, v0, v1, i0, i1, A1, A2, A3, A4, r1, r2, r3, r4, H⟩ := key.out W3.drew hb3.drew
  simp only [goInt] at r1 r2 r3 r4
  clear key hb3 SC hcv ht2
  go_wp2_with fail
  go_region
  all_goals
    go_wp2
    go_ret
    exact ⟨rfl, H.out⟩
end Go.Proofs.Ytfacobejgmnmpaa
