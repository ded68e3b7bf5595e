/-
  CONTRACTS of New and of deed, with each function that it is handed.
-/
import Derived.Test.YtmlpkimbcjkbkaaGreatDoorDkW4
import Derived.Test.YtmlpkimbcjkbkaaGreatDoorOrd
namespace Go.Proofs.YtmlpkimbcjkbkaaGreatDoor
open Go.RowKit Go.Maps

set_option maxHeartbeats 1000000 in
theorem sclone_any (s : ByteArray) (w : World) (hs : s.size ≤ 100000000) : Calls Tryz.prog 59 #[.string s] w fun e w' => e = .returned (.string s) ∧ Below w.heap.size w w' := by
  have C := Tryz.stringslite_Clone s w (by omega)
  go_enter Tryz.func59, Tryz.ntmps59
  go_wp2_with (refine C.mono ?_; rintro e w1 ⟨rfl, hb1⟩)
  go_ret
  exact ⟨rfl, hb1⟩

variable {Fp : Nat → Prop} {w : World} {Bd mn ms : Nat} {vs : Nat → Value × Value} {d : DS} {m : Nat}

/-- A builtin whose run is told by an equation. -/
theorem wpList_append_run {P : Program} (w : World) {ops : Array Oper} {rest : List Oper} {o : Oper} {a : Act} {Q : Exit → Act → World → Prop} (hgd : o.guard = none) (sl x : Operand) (t u : TypeId)
    (ho : o.op = .call { callee := .builtin .append, args := #[sl, x], argTypes := #[t, u] }) (v s : Value) (hs : a.eval sl = v) (hx : a.eval x = s) (v' : Value) (w' : World)
    (hr : (Builtin.append_ #[t, u] o.type #[v, s]).run P w = .ok v' w') (h : wpList P ops Q rest (a.put o.dst v') w') : wpList P ops Q (o :: rest) a w := by
  refine wpList_plain hgd fun K hK => ?_
  unfold Oper.wp execOp
  simp only [ho, resolve, invoke, builtin, Sem.run_bind, Sem.run_pure, Result.andThen_ok, List.map_toArray, List.map_cons, List.map_nil, hs, hx, hr]
  exact hK _ _ h
theorem Tryz.infoU8 : (Tryz.prog.info? 5).map (fun i => (i.zero, i.size, i.bytes)) = some (some (.int .u8 0), 1, 1) := by kernel_rfl

set_option maxRecDepth 100000 in
/-- The file of block b is longer by these bytes. -/
theorem append_file (h : DV Fp w Bd mn ms vs d m) (hF : Up Fp w) {b : Nat} (hb : d.Has b) (t : ByteArray) (ht : (d.fs b).1.length + t.size ≤ 1048576) (ty : TypeId) :
    ∃ v' w1, (Builtin.append_ #[109, 9] ty #[(vs b).1, .string t]).run Tryz.prog w = .ok v' w1 ∧ w1.cell? ⟨b, 0, none⟩ = some (vs b).1 ∧ w1.frozen? ⟨b, 0, none⟩ = false ∧
      DV Fp (w1.setCell ⟨b, 0, none⟩ v') Bd mn ms (upd vs b (v', (vs b).2)) { d with fs := upd d.fs b ((d.fs b).1 ++ t.data.toList, (d.fs b).2) } m ∧ Oth Fp w (w1.setCell ⟨b, 0, none⟩ v') ∧ (∃ p n c, v' = .slice p n c) := by
  have hf := h.files b hb
  have hl := h.lens b hb
  obtain ⟨i0, hi, hz0, hz1, hz2⟩ := info_parts Tryz.infoU8
  obtain ⟨v', w1, hr, hS, hg, hown, hrow, hcap⟩ := run_append_slot w 109 9 ty i0 Tryz.underlying109 Tryz.underlying9 hi hz0 hz1 hz2 (vs b).1 (d.fs b).1 hf.s1 t (by omega)
  have hbr : ∀ g, (vs b).1.ownBlock = some g → b ≠ g := by
    intro g hg0
    obtain ⟨_, cur, hc⟩ := hf.s1.lt hg0
    exact (row_ne hc hf.blk (by decide)).symm
  have hblk1 : w1.heap[b]? = w.heap[b]? := hg.block b hf.lt (fun e => absurd rfl (hbr b e.symm))
  have hblk2 : w1.heap[b]? = some (.cells #[(vs b).1, (vs b).2] 111 (0, 0)) := hblk1.trans hf.blk
  have hnew : ∀ g, v'.ownBlock = some g → (vs b).1.ownBlock = some g ∨ w.heap.size ≤ g := by
    intro g hg0
    rcases hown with e | e
    · exact .inl (e ▸ hg0)
    · rw [hg0] at e
      exact .inr (by have := Option.some.inj e; omega)
  have hFg : ∀ g, (vs b).1.ownBlock = some g ∨ w.heap.size ≤ g → Fp g := by
    rintro g (e | e)
    · exact hf.f1 g e
    · exact hF g e
  -- the safe slice stands
  have hS2 : Slot w1 (vs b).2 (d.fs b).2 := by
    cases ho2 : (vs b).2.ownBlock with
    | none =>
      refine hf.s2.kept (fun g e => ?_)
      rw [ho2] at e; cases e
    | some g =>
      by_cases hs : (vs b).1.ownBlock = some g
      · obtain ⟨_, cur, hc⟩ := hf.s1.lt hs
        obtain ⟨cur', hc', hsz, htk, hsame⟩ := hrow g cur hs hc
        refine hf.s2.shared ho2 hc hc' hsz ?_
        rcases hf.shr g hs ho2 with hle | hcp
        · have e1 : cur'.toList.take (d.fs b).2.length = (cur'.toList.take (d.fs b).1.length).take (d.fs b).2.length := by rw [List.take_take]; congr 1; omega
          rw [e1, htk, List.take_take]; congr 1; omega
        · rw [hsame hcp]
      · refine hf.s2.kept (fun g' e => ?_)
        rw [ho2] at e
        obtain rfl := Option.some.inj e
        exact hg.block g (hf.s2.lt ho2).1 (fun e => hs e.symm)
  have hset : ∀ j, j ≠ b → (w1.setCell ⟨b, 0, none⟩ v').heap[j]? = w1.heap[j]? := fun j hj => Below.heap_setCell w1 ⟨b, 0, none⟩ v' j hj
  have hbnew : ∀ g, v'.ownBlock = some g → g ≠ b := by
    intro g hg0 e
    subst e
    rcases hnew g hg0 with e | e
    · exact hbr g e rfl
    · have := hf.lt; omega
  have hb2 : ∀ g, (vs b).2.ownBlock = some g → g ≠ b := by
    intro g hg0 e
    subst e
    obtain ⟨_, cur, hc⟩ := hf.s2.lt hg0
    exact row_ne hc hf.blk (by decide) rfl
  have hlen : ((d.fs b).1 ++ t.data.toList).length = (d.fs b).1.length + t.size := by simp
  have hFile : FileAt Fp (w1.setCell ⟨b, 0, none⟩ v') b ((d.fs b).1 ++ t.data.toList, (d.fs b).2) (v', (vs b).2) := by
    refine ⟨?_, hS.kept (fun g e => hset g (hbnew g e)), hS2.kept (fun g e => hset g (hb2 g e)), hf.fp, fun g e => hFg g (hnew g e), hf.f2, ?_⟩
    · rw [setCell_block hblk2]; rfl
    · intro g e1 e2
      rcases hnew g e1 with e | e
      · rcases hf.shr g e e2 with hle | hcp
        · left; simp only [hlen]; omega
        · by_cases ht0 : t.size = 0
          · right
            show capOf v' = ((d.fs b).1 ++ t.data.toList).length
            rw [hcap (e1.trans e.symm), hcp, hlen]; omega
          · -- a full row takes no byte more
            exfalso
            obtain ⟨p, c, hv, _, _⟩ := hS.form
            have hc0 := hcap (e1.trans e.symm)
            rw [hcp] at hc0
            obtain ⟨p', c', hv', hle', _⟩ := hS.form
            rw [hv'] at hc0
            simp only [capOf] at hc0
            rw [hlen] at hle'
            omega
      · exfalso
        have := (hf.s2.lt e2).1
        omega
  refine ⟨v', w1, hr, by rw [block_cell hblk2]; rfl, block_frozen hblk2, ?_, ?_, ?_⟩
  · refine h.setF (w' := w1.setCell ⟨b, 0, none⟩ v') hb (by rw [hlen]; omega) hl.2 hFile ?_ ?_
    · intro j hj hjb hno
      rw [hset j hjb]
      refine hg.block j hj (fun e => ?_)
      obtain ⟨_, cur, hc⟩ := hf.s1.lt e.symm
      exact hno cur hc (.inl e.symm)
    · rintro g (e | e)
      · rcases hnew g e with e' | e'
        · exact .inl (.inl e')
        · exact .inr e'
      · exact .inl (.inr e)
  · exact ((Oth.refl Fp w).grown hg (fun g e => hf.f1 g e)).setCell (p := ⟨b, 0, none⟩) hf.fp v'
  · obtain ⟨p, c, hv, _, _⟩ := hS.form
    exact ⟨p, _, c, hv⟩

theorem DV.fresh (h : DV Fp w Bd mn ms vs d m) : ¬ d.Has w.heap.size := fun e => absurd (h.files _ e).lt (by omega)
def appF (d : DS) (b : Nat) (t : Nm) : DS := { d with fs := upd d.fs b ((d.fs b).1 ++ t, (d.fs b).2) }
def newF (d : DS) (n : Nm) (b : Nat) (t : Nm) : DS := { d with now := putD d.now n b, fs := upd d.fs b (t, []) }
def wrD (d : DS) (n : Nm) (b : Nat) (t : Nm) : DS := match getD d.now n with
  | some c => appF d c t
  | none => newF d n b t

/-- What a put makes of the names: only the map's block turns. -/
theorem DV.putN (h : DV Fp w Bd mn ms vs d m) (s : ByteArray) (hs : s.size ≤ 100000000) (b : Nat) :
    ∃ w', (Instr.mapUpdate 60 (.map (some mn)) (.string s) (.pointer (some ⟨b, 0, none⟩))).run Tryz.prog w = .ok () w' ∧ w'.ownsMap Tryz.prog 9 ptrE mn (m + 1) (dat (putD d.now s.data.toList b)) ∧ w.grownBy w' (some mn) := by
  have := h.few
  obtain ⟨w', hr, ho, hg⟩ := h.mapN.update (string_keyed Tryz.underlying9) Tryz.underlying60 (by unfold maxLen; omega) (WideMaps.keyOf_string_mk Tryz.underlying9 (s := s) (by unfold maxLen; omega)) (ptrE_some b)
  rw [dat_put] at ho
  exact ⟨w', hr, ho, hg⟩
def WrPost (Fp : Nat → Prop) (w : World) (Bd mn ms : Nat) (d : DS) (m : Nat) (n t : Nm) (w' : World) : Prop := ∃ b vs', ¬ d.Has b ∧ DV Fp w' Bd mn ms vs' (wrD d n b t) m ∧ Oth Fp w w'
theorem newF_app (d : DS) (n : Nm) (b : Nat) (t : Nm) : appF { d with now := putD d.now n b, fs := upd d.fs b ([], []) } b t = newF d n b t := by
  unfold appF newF
  simp only [upd_same, List.nil_append]
  congr 1
  funext j
  unfold upd
  split <;> rfl
theorem putN_has {n : Nm} {b : Nat} : ∀ c, (∃ x, (x, c) ∈ putD d.now n b) → d.Has c ∨ c = b := by
  rintro c ⟨x, hx⟩
  rcases mem_putD.1 hx with e | ⟨e, _⟩
  · simp at e; exact .inr e.2
  · exact .inl ⟨x, .inl e⟩
set_option maxHeartbeats 4000000 in
set_option maxRecDepth 100000 in
theorem write_any (h : DV Fp w Bd mn ms vs d m) (hne : mn ≠ ms) (hF : Up Fp w) (s : ByteArray) (hs : s.size ≤ 100000000) (t : ByteArray) (ht : hasL d s.data.toList + t.size ≤ 1048576) (hroom : getD d.now s.data.toList = none → d.now.length < m) :
    Calls Tryz.prog 51 #[.pointer (some ⟨Bd, 0, none⟩), .string s, .string t] w fun e w' => e = .returned (.tuple #[]) ∧ WrPost Fp w Bd mn ms d m s.data.toList t.data.toList w' := by
  have c0 := h.c0
  have lk := h.look s (by omega)
  cases hg : getD d.now s.data.toList with
  | some b =>
    rw [hg] at lk
    unfold ptrV at lk
    have hb := h.has_of_get hg
    have hh : hasL d s.data.toList = (d.fs b).1.length := by unfold hasL; rw [hg]
    obtain ⟨v', w1, hr, hc1, hf1, hD, hO, p, n, c, hv⟩ := append_file h hF hb t (by omega) 109
    subst hv
    have HQ : Hid (∃ b vs', ¬ d.Has b ∧ DV Fp (w1.setCell ⟨b, 0, none⟩ (.slice p n c)) Bd mn ms vs' (wrD d s.data.toList b t.data.toList) m ∧ Oth Fp w (w1.setCell ⟨b, 0, none⟩ (.slice p n c))) → True := fun _ => trivial
    clear HQ
    have HQ := Lib.hid (show ∃ b' vs', ¬ d.Has b' ∧ DV Fp (w1.setCell ⟨b, 0, none⟩ (.slice p n c)) Bd mn ms vs' (wrD d s.data.toList b' t.data.toList) m ∧ Oth Fp w (w1.setCell ⟨b, 0, none⟩ (.slice p n c)) from ⟨w.heap.size, _, h.fresh, by unfold wrD; rw [hg]; exact hD, hO⟩)
    have f0 := (h.files b hb).c0
    obtain ⟨p0, c00, hv0, _, _⟩ := (h.files b hb).s1.form
    rw [hv0] at f0 hr hc1
    generalize (d.fs b).1.length = n0 at *
    clear hD hO h hb hh hg ht hroom hv0
    go_enter Tryz.func51, Tryz.ntmps51
    go_wp2_with (first | (at_builtin; refine wpList_append_run _ rfl _ _ _ _ rfl _ _ rfl rfl _ _ hr ?_) | go_in)
    go_end0
    exact ⟨rfl, HQ.out⟩
  | none =>
    rw [hg] at lk
    unfold ptrV at lk
    have hsm := hroom hg
    have hfr := h.fresh
    have hfew := h.few
    have hltB := h.ltB
    have SC := Lib.hid (fun w' => sclone_any s w' hs)
    -- behind the copy of the name, in whatever world: the put, then the bytes
    have key : Hid (∀ w8, Below (w.alloc (.cells #[.slice none 0 0, .slice none 0 0] 111)).heap.size (w.alloc (.cells #[.slice none 0 0, .slice none 0 0] 111)) w8 →
        ∃ w9, (Instr.mapUpdate 60 (.map (some mn)) (.string s) (.pointer (some ⟨w.heap.size, 0, none⟩))).run Tryz.prog w8 = .ok () w9 ∧ w9.cell? ⟨w.heap.size, 0, none⟩ = some (.slice none 0 0) ∧
        ∃ p n c w10, (Builtin.append_ #[109, 9] 109 #[.slice none 0 0, .string t]).run Tryz.prog w9 = .ok (.slice p n c) w10 ∧ w10.cell? ⟨w.heap.size, 0, none⟩ = some (.slice none 0 0) ∧ w10.frozen? ⟨w.heap.size, 0, none⟩ = false ∧
          Hid (∃ b vs', ¬ d.Has b ∧ DV Fp (w10.setCell ⟨w.heap.size, 0, none⟩ (.slice p n c)) Bd mn ms vs' (wrD d s.data.toList b t.data.toList) m ∧ Oth Fp w (w10.setCell ⟨w.heap.size, 0, none⟩ (.slice p n c)))) := by
      refine Lib.hid ?_
      intro w8 hb8
      have hA : DV Fp (w.alloc (.cells #[.slice none 0 0, .slice none 0 0] 111)) Bd mn ms vs d m := h.alloc _
      have hO1 : Oth Fp w (w.alloc (.cells #[.slice none 0 0, .slice none 0 0] 111)) := (Oth.refl Fp w).alloc _
      have hnb : (w.alloc (.cells #[.slice none 0 0, .slice none 0 0] 111)).heap[w.heap.size]? = some (.cells #[.slice none 0 0, .slice none 0 0] 111 (0, 0)) := heap_alloc_new w _
      have hD8 : DV Fp w8 Bd mn ms vs d m := hA.below hb8
      have hb8' : w8.heap[w.heap.size]? = some (.cells #[.slice none 0 0, .slice none 0 0] 111 (0, 0)) := (hb8.block _ (by simp)).trans hnb
      obtain ⟨w9, hr9, ho9, hg9⟩ := hD8.putN s hs w.heap.size
      have hFile : FileAt Fp w8 w.heap.size ([], []) (.slice none 0 0, .slice none 0 0) := ⟨hb8', Slot.nil _, Slot.nil _, hF _ (Nat.le_refl _), by simp [Value.ownBlock], by simp [Value.ownBlock], by simp [Value.ownBlock]⟩
      have hD9 := hD8.turnNew (w' := w9) hne hfr (N := []) (S := []) (by simp) (by simp) hFile (by intro c _ g hg0; rcases hg0 with e | e <;> simp [Value.ownBlock] at e) ho9 hg9 (h.srtN.put _ _) (k := m) (Nat.le_refl _) (by have := length_putD d.now s.data.toList w.heap.size; omega) hfew putN_has
      have hU9 : Up Fp w9 := hF.mono (Nat.le_trans (Nat.le_trans hO1.size hb8.size) hg9.size)
      have hasb : DS.Has { d with now := putD d.now s.data.toList w.heap.size, fs := upd d.fs w.heap.size ([], []) } w.heap.size := ⟨s.data.toList, .inl (mem_putD.2 (.inl rfl))⟩
      have hh : hasL d s.data.toList = 0 := by unfold hasL; rw [hg]
      obtain ⟨v', w10, hr, hc1, hf1, hD, hO, p, n, c, hv⟩ := append_file hD9 hU9 hasb t (by simp only [upd_same, List.length_nil]; omega) 109
      subst hv
      simp only [upd_same] at hr hc1
      have hF9 := hD9.files _ hasb
      have hc9 := hF9.c0
      simp only [upd_same] at hc9
      have e : wrD d s.data.toList w.heap.size t.data.toList = appF { d with now := putD d.now s.data.toList w.heap.size, fs := upd d.fs w.heap.size ([], []) } w.heap.size t.data.toList := by
        unfold wrD; rw [hg]; exact (newF_app _ _ _ _).symm
      have hOO := ((hO1.trans ((Oth.refl Fp _).trans ⟨hb8.os, hb8.tape, hb8.output, hb8.size, fun k hk _ => hb8.block k hk⟩)).trans ((Oth.refl Fp w8).grown hg9 (fun k e => by cases e; exact h.fN))).trans hO
      exact ⟨w9, hr9, hc9, p, n, c, w10, hr, hc1, hf1, Lib.hid ⟨w.heap.size, _, hfr, by rw [e]; exact hD, hOO⟩⟩
    have cB : (w.alloc (.cells #[.slice none 0 0, .slice none 0 0] 111)).cell? ⟨Bd, 0, none⟩ = some (.map (some mn)) := (h.alloc _).c0
    have hx : (w.alloc (.cells #[.slice none 0 0, .slice none 0 0] 111)).heap.size = w.heap.size + 1 := by simp
    clear h hg ht hroom hF hfr hfew hne
    have hlt1 : Bd < (w.alloc (.cells #[.slice none 0 0, .slice none 0 0] 111)).heap.size := by rw [hx]; omega
    have hk := And.intro cB (Below.refl (w.alloc (.cells #[.slice none 0 0, .slice none 0 0] 111)).heap.size (w.alloc (.cells #[.slice none 0 0, .slice none 0 0] 111)))
    go_enter Tryz.func51, Tryz.ntmps51
    go_wp2
    generalize w.alloc (.cells #[.slice none 0 0, .slice none 0 0] 111) = W1 at *
    refine wp_region_L (st := [7]) (S := fun w' => w'.cell? ⟨Bd, 0, none⟩ = some (.map (some mn)) ∧ Below W1.heap.size W1 w') (by kernel_rfl) (drew2 hk) (fun hHeld => ?_)
    refine tkL 0 (v := ?_) rfl ?_ ?_
    rotate_left
    · (intro w hSw; (try dsimp only at hSw); go_simp; try with_reducible rfl)
    try simp only [nrm]
    refine tkL 1 (v := ?_) rfl ?_ ?_
    rotate_left
    · (intro w hSw; (try dsimp only at hSw); go_simp; try with_reducible rfl)
    try simp only [nrm]
    refine tkL 2 (v := ?_) rfl ?_ ?_
    rotate_left
    · (intro w hSw; (try dsimp only at hSw); go_simp; try with_reducible rfl)
    try simp only [nrm]
    refine tkL 3 (v := ?_) rfl ?_ ?_
    rotate_left
    · (intro w hSw; (try dsimp only at hSw); go_simp; try with_reducible rfl)
    try simp only [nrm]
    refine tkL 4 (v := ?_) rfl ?_ ?_
    rotate_left
    · (intro w hSw; (try dsimp only at hSw); go_simp; try with_reducible rfl)
    try simp only [nrm]
    refine tkL 6 (v := ?_) rfl ?_ ?_
    rotate_left
    · (intro w hSw; (try dsimp only at hSw); go_simp; try with_reducible rfl)
    try simp only [nrm]
    refine rdL 5 rfl (fun K hK => ?_)
    go_simp
    refine (SC.out _).mono ?_
    rintro e w8 ⟨rfl, hb8⟩
    have hb9 := hHeld.2.trans (hb8.mono hHeld.2.size)
    obtain ⟨w9, q9, c9, p, n, c, w10, r10, c10, f10, H10⟩ := key.out w8 hb9
    go_simp
    refine hK.out _ _ (⟨(hb9.cell (p := ⟨Bd, 0, none⟩) hlt1).trans cB, hb9⟩) (fun hHeld => ?_)
    clear hK K
    try simp only [nrm]
    refine wpAnyL_ready (rs := [7]) (by kernel_rfl) (by simp) ?_
    refine AllReadyL.store (o := _) rfl (by decide) (by decide) (fun K hK => ?_) AllReadyL.nil
    go_simp
    refine hK.out _ _ ?_
    clear hK K
    try simp only [nrm]
    refine wpAnyL_done (by kernel_rfl) ?_ _
    go_wp2_with (first | (at_builtin; refine wpList_append_run _ rfl _ _ _ _ rfl _ _ rfl rfl _ _ r10 ?_) | go_in)
    go_end0
    exact ⟨rfl, H10.out⟩
end Go.Proofs.YtmlpkimbcjkbkaaGreatDoor

namespace Go.Proofs.YtmlpkimbcjkbkaaGreatDoor
open Go.RowKit Go.Maps

variable {Fp : Nat → Prop} {w : World} {Bd mn ms : Nat} {vs : Nat → Value × Value} {d : DS} {m : Nat}
def newDS (q : Int) : DS := { now := [], safe := [], fs := fun _ => ([], []), quota := max q 0, left := -1, dead := false }
theorem DV.made {Fp : Nat → Prop} (w : World) (hF : Up Fp w) (m : Nat) (hm : m ≤ 100000) :
    DV Fp (((w.alloc (.map #[] 0)).alloc (.map #[] 0)).alloc (.cells #[.map (some w.heap.size), .map (some (w.heap.size + 1)), .int .i64 0, .int .i64 (-1), .bool false] 62)) (w.heap.size + 2) w.heap.size (w.heap.size + 1) (fun _ => (.slice none 0 0, .slice none 0 0)) (newDS 0) m := by
  have e1 : (w.alloc (.map #[] 0)).heap.size = w.heap.size + 1 := by simp
  have e2 : ((w.alloc (.map #[] 0)).alloc (.map #[] 0)).heap.size = w.heap.size + 2 := by simp
  have no : ∀ b, ¬ (newDS 0).Has b := by
    rintro b ⟨n, h | h⟩ <;> cases h
  have o1 := World.ownsMap_made (H := Unit) w Tryz.prog 9 ptrE
  have o2 := World.ownsMap_made (H := Unit) (w.alloc (.map #[] 0)) Tryz.prog 9 ptrE
  rw [e1] at o2
  refine { blk := ?_, mapN := ((o1.alloc _).alloc _).mono (Nat.zero_le _), mapS := (o2.alloc _).mono (Nat.zero_le _), fB := hF _ (by omega), fN := hF _ (by omega), fS := hF _ (by omega), files := fun b hb => absurd hb (no b), apart := fun b _ hb _ => absurd hb (no b), srtN := List.Pairwise.nil, srtS := List.Pairwise.nil, lens := fun b hb => absurd hb (no b), quo := by simp [newDS], lft := by simp [newDS], few := hm }
  have := heap_alloc_new ((w.alloc (.map #[] 0)).alloc (.map #[] 0)) (.cells #[.map (some w.heap.size), .map (some (w.heap.size + 1)), .int .i64 0, .int .i64 (-1), .bool false] 62)
  rw [e2] at this
  exact this
def NewPost (Fp : Nat → Prop) (w : World) (q : Int) (m : Nat) (w' : World) : Prop := Dsk Fp w' (w.heap.size + 2) (newDS q) m ∧ Below w.heap.size w w'
set_option maxHeartbeats 4000000 in
set_option maxRecDepth 100000 in
theorem dnew_any (w : World) (hF : Up Fp w) (q : Int) (hq : q ≤ 9223372036854775807) (m : Nat) (hm : m ≤ 100000) :
    Calls Tryz.prog 9 #[.int .i64 q] w fun e w' => e = .returned (.pointer (some ⟨w.heap.size + 2, 0, none⟩)) ∧ NewPost Fp w q m w' := by
  have HD := DV.made (Fp := fun k => w.heap.size ≤ k) w (fun _ hk => hk) m hm
  have hB : Below w.heap.size w (((w.alloc (.map #[] 0)).alloc (.map #[] 0)).alloc (.cells #[.map (some w.heap.size), .map (some (w.heap.size + 1)), .int .i64 0, .int .i64 (-1), .bool false] 62)) := (((Below.refl _ w).alloc (Nat.le_refl _) _).alloc (by simp) _).alloc (by simp; omega) _
  have QC := (quota_any HD q hq).mono (R' := fun e w' => e = .returned (.tuple #[]) ∧ NewPost Fp w q m w') (by
    rintro e w' ⟨rfl, hD, hO⟩
    exact ⟨rfl, ⟨_, _, _, by omega, hD.wider (fun j _ hj => hF j hj)⟩, hB.trans (hO.below (fun k hk => hk) hB.size)⟩)
  have QH := Lib.hid QC
  clear QC HD hB hF
  have hmm := @run_makeMap Tryz.prog
  go_enter Tryz.func9, Tryz.ntmps9
  go_wp2_with (refine QH.out.mono ?_; rintro e w1 ⟨rfl, H1⟩)
  go_ret
  exact ⟨rfl, H1⟩


def dieD (d : DS) : DS := { d with dead := true }
def decD (d : DS) : DS := if 0 < d.left then { d with left := d.left - 1 } else d
def decW (w : World) (Bd : Nat) (d : DS) : World := if 0 < d.left then w.setCell ⟨Bd, 3, none⟩ (.int .i64 (d.left - 1)) else w
theorem DV.die (h : DV Fp w Bd mn ms vs d m) : DV Fp (w.setCell ⟨Bd, 4, none⟩ (.bool true)) Bd mn ms vs (dieD d) m := h.setB 4 (.bool true) (q := d.quota) (l := d.left) (x := true) h.quo h.lft rfl
theorem DV.dieO (h : DV Fp w Bd mn ms vs d m) : Oth Fp w (w.setCell ⟨Bd, 4, none⟩ (.bool true)) := (Oth.refl Fp w).setCell (p := ⟨Bd, 4, none⟩) h.fB _
theorem DV.dec (h : DV Fp w Bd mn ms vs d m) : DV Fp (decW w Bd d) Bd mn ms vs (decD d) m := by
  unfold decW decD
  split
  · exact h.setB 3 (.int .i64 (d.left - 1)) (q := d.quota) (l := d.left - 1) (x := d.dead) h.quo (by have := h.lft; omega) rfl
  · exact h
theorem DV.decO (h : DV Fp w Bd mn ms vs d m) : Oth Fp w (decW w Bd d) := by
  unfold decW
  split
  · exact (Oth.refl Fp w).setCell (p := ⟨Bd, 3, none⟩) h.fB _
  · exact Oth.refl _ _
theorem decW_cell {a : Addr} (h : a.block ≠ Bd) : (decW w Bd d).cell? a = w.cell? a := by
  unfold decW
  split
  · exact World.cell?_setCell_far _ _ _ _ (Ne.symm h)
  · rfl
theorem dieW_cell {a : Addr} (h : a.block ≠ Bd) : (w.setCell ⟨Bd, 4, none⟩ (.bool true)).cell? a = w.cell? a := World.cell?_setCell_far _ _ _ _ (Ne.symm h)
theorem nothing_any (w : World) : Calls Tryz.prog 57 #[] w fun e w' => e = .returned (.tuple #[]) ∧ w' = w := by
  go_enter Tryz.func57, Tryz.ntmps57
  go_wp2
  go_end0
  exact ⟨rfl, rfl⟩

set_option maxHeartbeats 1000000 in
theorem die_Append (h : DV Fp w Bd mn ms vs d m) (h0 : d.left = 0) (x0 x1 x2 : Value) (R : World → Prop) (H : Calls Tryz.prog 50 #[x0, x1, x2] (w.setCell ⟨Bd, 4, none⟩ (.bool true)) fun e w' => e = .returned (.tuple #[]) ∧ R w') :
    Calls Tryz.prog 52 #[.pointer (some ⟨Bd, 0, none⟩), .func (.func 50) #[] #[x0, x1, x2], .func (.func 50) #[] #[x0, x1, x2]] w fun e w' => e = .returned (.int .i64 8) ∧ R w' := by
  have c3 := h.c3
  have c4 := h.c4
  have z4 := h.fz 4
  rw [h0] at c3
  clear h h0
  go_enter Tryz.func52, Tryz.ntmps52
  go_wp2_with (refine H.mono ?_; rintro e w1 ⟨rfl, H1⟩)
  go_ret
  exact ⟨rfl, H1⟩
set_option maxHeartbeats 1000000 in
theorem do_Append (h : DV Fp w Bd mn ms vs d m) (h0 : d.left ≠ 0) (x0 x1 x2 : Value) (R : World → Prop) (H : Calls Tryz.prog 50 #[x0, x1, x2] (decW w Bd d) fun e w' => e = .returned (.tuple #[]) ∧ R w') :
    Calls Tryz.prog 52 #[.pointer (some ⟨Bd, 0, none⟩), .func (.func 50) #[] #[x0, x1, x2], .func (.func 50) #[] #[x0, x1, x2]] w fun e w' => e = .returned (.int .i64 0) ∧ R w' := by
  have c3 := h.c3
  have z3 := h.fz 3
  have i0 : (d.left == 0) = false := by simpa using h0
  have hl := h.lft
  have hw : 0 < d.left → IntKind.i64.wrap (d.left - 1) = d.left - 1 := fun hp => wrap_in (by omega) (by omega)
  unfold decW at H
  generalize d.left = l at *
  clear h h0 hl
  by_cases hp : 0 < l
  · rw [if_pos hp] at H
    have hw1 := hw hp
    clear hw
    go_enter Tryz.func52, Tryz.ntmps52
    go_wp2_with (refine H.mono ?_; rintro e w1 ⟨rfl, H1⟩)
    go_ret
    exact ⟨rfl, H1⟩
  · rw [if_neg hp] at H
    have hp' : decide (0 < l) = false := by simpa using hp
    clear hw
    go_enter Tryz.func52, Tryz.ntmps52
    go_wp2_with (refine H.mono ?_; rintro e w1 ⟨rfl, H1⟩)
    go_ret
    exact ⟨rfl, H1⟩
set_option maxHeartbeats 1000000 in
theorem die_Sync (h : DV Fp w Bd mn ms vs d m) (h0 : d.left = 0) (x0 : Value) :
    Calls Tryz.prog 52 #[.pointer (some ⟨Bd, 0, none⟩), .func (.func 56) #[] #[x0], .func (.func 57) #[] #[]] w fun e w' => e = .returned (.int .i64 8) ∧ w' = w.setCell ⟨Bd, 4, none⟩ (.bool true) := by
  have c3 := h.c3
  have c4 := h.c4
  have z4 := h.fz 4
  rw [h0] at c3
  have H := nothing_any (w.setCell ⟨Bd, 4, none⟩ (.bool true))
  clear h h0
  go_enter Tryz.func52, Tryz.ntmps52
  go_wp2_with (refine H.mono ?_; rintro e w1 ⟨rfl, H1⟩)
  subst H1
  go_ret
  exact ⟨rfl, rfl⟩
set_option maxHeartbeats 1000000 in
theorem do_Sync (h : DV Fp w Bd mn ms vs d m) (h0 : d.left ≠ 0) (x0 : Value) (R : World → Prop) (H : Calls Tryz.prog 56 #[x0] (decW w Bd d) fun e w' => e = .returned (.tuple #[]) ∧ R w') :
    Calls Tryz.prog 52 #[.pointer (some ⟨Bd, 0, none⟩), .func (.func 56) #[] #[x0], .func (.func 57) #[] #[]] w fun e w' => e = .returned (.int .i64 0) ∧ R w' := by
  have c3 := h.c3
  have z3 := h.fz 3
  have i0 : (d.left == 0) = false := by simpa using h0
  have hl := h.lft
  have hw : 0 < d.left → IntKind.i64.wrap (d.left - 1) = d.left - 1 := fun hp => wrap_in (by omega) (by omega)
  unfold decW at H
  generalize d.left = l at *
  clear h h0 hl
  by_cases hp : 0 < l
  · rw [if_pos hp] at H
    have hw1 := hw hp
    clear hw
    go_enter Tryz.func52, Tryz.ntmps52
    go_wp2_with (refine H.mono ?_; rintro e w1 ⟨rfl, H1⟩)
    go_ret
    exact ⟨rfl, H1⟩
  · rw [if_neg hp] at H
    have hp' : decide (0 < l) = false := by simpa using hp
    clear hw
    go_enter Tryz.func52, Tryz.ntmps52
    go_wp2_with (refine H.mono ?_; rintro e w1 ⟨rfl, H1⟩)
    go_ret
    exact ⟨rfl, H1⟩
set_option maxHeartbeats 1000000 in
theorem die_SyncDir (h : DV Fp w Bd mn ms vs d m) (h0 : d.left = 0) (x0 : Value) :
    Calls Tryz.prog 52 #[.pointer (some ⟨Bd, 0, none⟩), .func (.func 60) #[] #[x0], .func (.func 57) #[] #[]] w fun e w' => e = .returned (.int .i64 8) ∧ w' = w.setCell ⟨Bd, 4, none⟩ (.bool true) := by
  have c3 := h.c3
  have c4 := h.c4
  have z4 := h.fz 4
  rw [h0] at c3
  have H := nothing_any (w.setCell ⟨Bd, 4, none⟩ (.bool true))
  clear h h0
  go_enter Tryz.func52, Tryz.ntmps52
  go_wp2_with (refine H.mono ?_; rintro e w1 ⟨rfl, H1⟩)
  subst H1
  go_ret
  exact ⟨rfl, rfl⟩
set_option maxHeartbeats 1000000 in
theorem do_SyncDir (h : DV Fp w Bd mn ms vs d m) (h0 : d.left ≠ 0) (x0 : Value) (R : World → Prop) (H : Calls Tryz.prog 60 #[x0] (decW w Bd d) fun e w' => e = .returned (.tuple #[]) ∧ R w') :
    Calls Tryz.prog 52 #[.pointer (some ⟨Bd, 0, none⟩), .func (.func 60) #[] #[x0], .func (.func 57) #[] #[]] w fun e w' => e = .returned (.int .i64 0) ∧ R w' := by
  have c3 := h.c3
  have z3 := h.fz 3
  have i0 : (d.left == 0) = false := by simpa using h0
  have hl := h.lft
  have hw : 0 < d.left → IntKind.i64.wrap (d.left - 1) = d.left - 1 := fun hp => wrap_in (by omega) (by omega)
  unfold decW at H
  generalize d.left = l at *
  clear h h0 hl
  by_cases hp : 0 < l
  · rw [if_pos hp] at H
    have hw1 := hw hp
    clear hw
    go_enter Tryz.func52, Tryz.ntmps52
    go_wp2_with (refine H.mono ?_; rintro e w1 ⟨rfl, H1⟩)
    go_ret
    exact ⟨rfl, H1⟩
  · rw [if_neg hp] at H
    have hp' : decide (0 < l) = false := by simpa using hp
    clear hw
    go_enter Tryz.func52, Tryz.ntmps52
    go_wp2_with (refine H.mono ?_; rintro e w1 ⟨rfl, H1⟩)
    go_ret
    exact ⟨rfl, H1⟩
set_option maxHeartbeats 1000000 in
theorem die_Rename (h : DV Fp w Bd mn ms vs d m) (h0 : d.left = 0) (x0 x1 x2 x3 : Value) :
    Calls Tryz.prog 52 #[.pointer (some ⟨Bd, 0, none⟩), .func (.func 58) #[] #[x0, x1, x2, x3], .func (.func 57) #[] #[]] w fun e w' => e = .returned (.int .i64 8) ∧ w' = w.setCell ⟨Bd, 4, none⟩ (.bool true) := by
  have c3 := h.c3
  have c4 := h.c4
  have z4 := h.fz 4
  rw [h0] at c3
  have H := nothing_any (w.setCell ⟨Bd, 4, none⟩ (.bool true))
  clear h h0
  go_enter Tryz.func52, Tryz.ntmps52
  go_wp2_with (refine H.mono ?_; rintro e w1 ⟨rfl, H1⟩)
  subst H1
  go_ret
  exact ⟨rfl, rfl⟩
set_option maxHeartbeats 1000000 in
theorem do_Rename (h : DV Fp w Bd mn ms vs d m) (h0 : d.left ≠ 0) (x0 x1 x2 x3 : Value) (R : World → Prop) (H : Calls Tryz.prog 58 #[x0, x1, x2, x3] (decW w Bd d) fun e w' => e = .returned (.tuple #[]) ∧ R w') :
    Calls Tryz.prog 52 #[.pointer (some ⟨Bd, 0, none⟩), .func (.func 58) #[] #[x0, x1, x2, x3], .func (.func 57) #[] #[]] w fun e w' => e = .returned (.int .i64 0) ∧ R w' := by
  have c3 := h.c3
  have z3 := h.fz 3
  have i0 : (d.left == 0) = false := by simpa using h0
  have hl := h.lft
  have hw : 0 < d.left → IntKind.i64.wrap (d.left - 1) = d.left - 1 := fun hp => wrap_in (by omega) (by omega)
  unfold decW at H
  generalize d.left = l at *
  clear h h0 hl
  by_cases hp : 0 < l
  · rw [if_pos hp] at H
    have hw1 := hw hp
    clear hw
    go_enter Tryz.func52, Tryz.ntmps52
    go_wp2_with (refine H.mono ?_; rintro e w1 ⟨rfl, H1⟩)
    go_ret
    exact ⟨rfl, H1⟩
  · rw [if_neg hp] at H
    have hp' : decide (0 < l) = false := by simpa using hp
    clear hw
    go_enter Tryz.func52, Tryz.ntmps52
    go_wp2_with (refine H.mono ?_; rintro e w1 ⟨rfl, H1⟩)
    go_ret
    exact ⟨rfl, H1⟩
set_option maxHeartbeats 1000000 in
theorem die_Remove (h : DV Fp w Bd mn ms vs d m) (h0 : d.left = 0) (x0 x1 : Value) :
    Calls Tryz.prog 52 #[.pointer (some ⟨Bd, 0, none⟩), .func (.func 82) #[] #[x0, x1], .func (.func 57) #[] #[]] w fun e w' => e = .returned (.int .i64 8) ∧ w' = w.setCell ⟨Bd, 4, none⟩ (.bool true) := by
  have c3 := h.c3
  have c4 := h.c4
  have z4 := h.fz 4
  rw [h0] at c3
  have H := nothing_any (w.setCell ⟨Bd, 4, none⟩ (.bool true))
  clear h h0
  go_enter Tryz.func52, Tryz.ntmps52
  go_wp2_with (refine H.mono ?_; rintro e w1 ⟨rfl, H1⟩)
  subst H1
  go_ret
  exact ⟨rfl, rfl⟩
set_option maxHeartbeats 1000000 in
theorem do_Remove (h : DV Fp w Bd mn ms vs d m) (h0 : d.left ≠ 0) (x0 x1 : Value) (R : World → Prop) (H : Calls Tryz.prog 82 #[x0, x1] (decW w Bd d) fun e w' => e = .returned (.tuple #[]) ∧ R w') :
    Calls Tryz.prog 52 #[.pointer (some ⟨Bd, 0, none⟩), .func (.func 82) #[] #[x0, x1], .func (.func 57) #[] #[]] w fun e w' => e = .returned (.int .i64 0) ∧ R w' := by
  have c3 := h.c3
  have z3 := h.fz 3
  have i0 : (d.left == 0) = false := by simpa using h0
  have hl := h.lft
  have hw : 0 < d.left → IntKind.i64.wrap (d.left - 1) = d.left - 1 := fun hp => wrap_in (by omega) (by omega)
  unfold decW at H
  generalize d.left = l at *
  clear h h0 hl
  by_cases hp : 0 < l
  · rw [if_pos hp] at H
    have hw1 := hw hp
    clear hw
    go_enter Tryz.func52, Tryz.ntmps52
    go_wp2_with (refine H.mono ?_; rintro e w1 ⟨rfl, H1⟩)
    go_ret
    exact ⟨rfl, H1⟩
  · rw [if_neg hp] at H
    have hp' : decide (0 < l) = false := by simpa using hp
    clear hw
    go_enter Tryz.func52, Tryz.ntmps52
    go_wp2_with (refine H.mono ?_; rintro e w1 ⟨rfl, H1⟩)
    go_ret
    exact ⟨rfl, H1⟩
end Go.Proofs.YtmlpkimbcjkbkaaGreatDoor
