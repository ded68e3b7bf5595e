/-
  CONTRACTS of the functions that deed is handed: what each does to the disk.
-/
import Derived.Test.YtmlpkimbcjkbkaaGreatDoorDkW6
namespace Go.Proofs.YtmlpkimbcjkbkaaGreatDoor
open Go.RowKit Go.Maps

variable {Fp : Nat → Prop} {w : World} {Bd mn ms : Nat} {vs : Nat → Value × Value} {d : DS} {m : Nat}
/-- A file's word is another slice of its own rows. -/
theorem DV.setFC (h : DV Fp w Bd mn ms vs d m) {b : Nat} (hb : d.Has b) (i : Nat) (x : Value) {v : Value × Value} {N S : Nm} (e : (#[(vs b).1, (vs b).2] : Array Value).setIfInBounds i x = #[v.1, v.2])
    (s1 : Slot w v.1 N) (s2 : Slot w v.2 S) (hv : ∀ g, Own2 v g → Own2 (vs b) g) (hN : N.length ≤ 1048576) (hS : S.length ≤ 1048576)
    (shr : ∀ g, v.1.ownBlock = some g → v.2.ownBlock = some g → S.length ≤ N.length ∨ capOf v.1 = N.length) :
    DV Fp (w.setCell ⟨b, i, none⟩ x) Bd mn ms (upd vs b v) { d with fs := upd d.fs b (N, S) } m ∧ Oth Fp w (w.setCell ⟨b, i, none⟩ x) := by
  have hf := h.files b hb
  have hset : ∀ j, j ≠ b → (w.setCell ⟨b, i, none⟩ x).heap[j]? = w.heap[j]? := fun j hj => Below.heap_setCell w ⟨b, i, none⟩ x j hj
  have hne : ∀ g, Own2 (vs b) g → g ≠ b := by
    intro g hg
    obtain ⟨_, _, cur, hc⟩ := hf.own hg
    exact row_ne hc hf.blk (by decide)
  have hF : FileAt Fp (w.setCell ⟨b, i, none⟩ x) b (N, S) v := by
    refine ⟨?_, s1.kept (fun g hg => hset g (hne g (hv g (.inl hg)))), s2.kept (fun g hg => hset g (hne g (hv g (.inr hg)))), hf.fp, fun g hg => (hf.own (hv g (.inl hg))).1, fun g hg => (hf.own (hv g (.inr hg))).1, shr⟩
    rw [setCell_block hf.blk, e]
  exact ⟨h.setF hb hN hS hF (fun j _ hj _ => hset j hj) (fun g hg => .inl (hv g hg)), (Oth.refl Fp w).setCell (p := ⟨b, i, none⟩) hf.fp x⟩
theorem Slot.cut {v : Value} {l : List UInt8} (h : Slot w v l) {k : Nat} (hk : k ≤ l.length) : ∃ p c, v = .slice p l.length c ∧ l.length ≤ c ∧ Slot w (.slice p k k) (l.take k) ∧ ∀ g, (Value.slice p k k).ownBlock = some g → v.ownBlock = some g := by
  rcases h with ⟨rfl, rfl⟩ | ⟨g, cap, cur, rfl, hb, h1, h2, h3, h4⟩
  · obtain rfl : k = 0 := by simpa using hk
    exact ⟨none, 0, rfl, Nat.le_refl _, .inl ⟨rfl, rfl⟩, by simp [Value.ownBlock]⟩
  · exact ⟨_, cap, rfl, h1, Slot.first (.inr ⟨g, cap, cur, rfl, hb, h1, h2, h3, h4⟩) hk (Nat.le_refl _) (by omega), fun g' e => e⟩

def synF (d : DS) (b : Nat) : DS := { d with fs := upd d.fs b ((d.fs b).1, (d.fs b).1) }
def cutF (d : DS) (b k : Nat) : DS := { d with fs := upd d.fs b ((d.fs b).1.take k, (d.fs b).2) }
def OpPost (Fp : Nat → Prop) (w : World) (Bd : Nat) (d' : DS) (m : Nat) (w' : World) : Prop := Dsk Fp w' Bd d' m ∧ Oth Fp w w'
theorem OpPost.drew {d' : DS} {w' : World} (h : OpPost Fp w Bd d' m w') : OpPost Fp w Bd d' m w'.drew := by
  obtain ⟨⟨mn, ms, vs, hne, hD⟩, hO⟩ := h
  exact ⟨⟨mn, ms, vs, hne, hD.kept (fun _ _ _ => rfl)⟩, hO.drew⟩
set_option maxHeartbeats 2000000 in
theorem sync1_any (h : DV Fp w Bd mn ms vs d m) (hne : mn ≠ ms) {b : Nat} (hb : d.Has b) (x : Nat) (hx : w.cell? ⟨x, 0, none⟩ = some (.pointer (some ⟨b, 0, none⟩))) :
    Calls Tryz.prog 56 #[.pointer (some ⟨x, 0, none⟩)] w fun e w' => e = .returned (.tuple #[]) ∧ OpPost Fp w Bd (synF d b) m w' := by
  have hf := h.files b hb
  have hl := h.lens b hb
  have f0 := hf.c0
  have f1 := hf.c1
  have z1 := hf.fz 1
  have HS := h.setFC hb 1 (vs b).1 (v := ((vs b).1, (vs b).1)) rfl hf.s1 hf.s1 (by rintro g (e | e) <;> exact .inl e) hl.1 hl.1 (fun _ _ _ => .inl (Nat.le_refl _))
  have HP : Hid (OpPost Fp w Bd (synF d b) m (w.setCell ⟨b, 1, none⟩ (vs b).1)) := Lib.hid ⟨⟨_, _, _, hne, HS.1⟩, HS.2⟩
  obtain ⟨p, c, hv, _, _⟩ := hf.s1.form
  rw [hv] at f0 HP
  generalize (d.fs b).1.length = n at *
  clear h hf hl HS hv
  go_enter Tryz.func56, Tryz.ntmps56
  go_wp2
  go_region
  all_goals
    go_wp2
    go_end0
    exact ⟨rfl, HP.out.drew⟩
theorem drew3 {w w' : World} {a b : Addr} {u v : Value} {B : Nat} (h : w'.cell? a = some u ∧ w'.cell? b = some v ∧ Below B w w') : w'.drew.cell? a = some u ∧ w'.drew.cell? b = some v ∧ Below B w w'.drew := ⟨h.1, h.2.1, h.2.2.drew⟩
def sdirF (d : DS) : DS := { d with safe := d.now }
set_option maxHeartbeats 4000000 in
set_option maxRecDepth 100000 in
theorem sdir1_any (h : DV Fp w Bd mn ms vs d m) (hF : Up Fp w) (x : Nat) (hltx : x < w.heap.size) (hx : w.cell? ⟨x, 0, none⟩ = some (.pointer (some ⟨Bd, 0, none⟩))) :
    Calls Tryz.prog 60 #[.pointer (some ⟨x, 0, none⟩)] w fun e w' => e = .returned (.tuple #[]) ∧ OpPost Fp w Bd (sdirF d) m w' := by
  have c0 := h.c0
  have hltB := h.ltB
  have MC : Hid (∀ W, Below w.heap.size w W → Calls Tryz.prog 61 #[.map (some mn)] W fun e w8 => e = .returned (.map (some W.heap.size)) ∧ Below W.heap.size W w8 ∧ w8.cell? ⟨Bd, 1, none⟩ = some (.map (some ms)) ∧ w8.frozen? ⟨Bd, 1, none⟩ = false ∧ Hid (OpPost Fp w Bd (sdirF d) m (w8.setCell ⟨Bd, 1, none⟩ (.map (some W.heap.size))))) := by
    refine Lib.hid ?_
    intro W hb
    have hW := h.below hb
    refine (Tryz.maps_Clone 9 ptrE mn m (dat d.now) W hW.mapN).mono ?_
    rintro e w8 ⟨rfl, ho, ho', hb8⟩
    have h8 := hW.below hb8
    have hO : Oth Fp w w8 := (Oth.of_below hb).trans (Oth.of_below hb8)
    have hn : mn ≠ W.heap.size := fun e => absurd hW.mapN.lt (by omega)
    have hS := h8.setS ho (hF _ hb.size) h8.srtN (fun b ⟨y, hy⟩ => ⟨y, .inl hy⟩)
    exact ⟨rfl, hb8, h8.c1, h8.fz 1, Lib.hid ⟨⟨_, _, _, hn, hS⟩, hO.setCell (p := ⟨Bd, 1, none⟩) h.fB _⟩⟩
  have hk := And.intro hx (And.intro c0 (Below.refl w.heap.size w))
  clear h hF
  go_enter Tryz.func60, Tryz.ntmps60
  go_wp2
  refine wp_region_L (st := [8]) (S := fun w' => w'.cell? ⟨x, 0, none⟩ = some (.pointer (some ⟨Bd, 0, none⟩)) ∧ w'.cell? ⟨Bd, 0, none⟩ = some (.map (some mn)) ∧ Below w.heap.size w w') (by kernel_rfl) (drew3 hk) (fun hHeld => ?_)
  refine tkL 0 (v := ?_) rfl ?_ ?_
  rotate_left
  · (intro w hSw; (try dsimp only at hSw); go_simp; try with_reducible rfl)
  try simp only [nrm]
  refine tkL 1 (v := ?_) rfl ?_ ?_
  rotate_left
  · (intro w hSw; (try dsimp only at hSw); go_simp; try with_reducible rfl)
  try simp only [nrm]
  refine tkL 2 (v := ?_) rfl ?_ ?_
  rotate_left
  · (intro w hSw; (try dsimp only at hSw); go_simp; try with_reducible rfl)
  try simp only [nrm]
  refine tkL 3 (v := ?_) rfl ?_ ?_
  rotate_left
  · (intro w hSw; (try dsimp only at hSw); go_simp; try with_reducible rfl)
  try simp only [nrm]
  refine tkL 4 (v := ?_) rfl ?_ ?_
  rotate_left
  · (intro w hSw; (try dsimp only at hSw); go_simp; try with_reducible rfl)
  try simp only [nrm]
  refine rdL 5 rfl (fun K hK => ?_)
  go_simp
  refine (MC.out _ hHeld.2.2).mono ?_
  rintro e w8 ⟨rfl, hb8, k1, z1, H8⟩
  have hb9 := hHeld.2.2.trans (hb8.mono hHeld.2.2.size)
  go_simp
  refine hK.out _ _ (⟨(hb9.cell (p := ⟨x, 0, none⟩) hltx).trans hx, (hb9.cell (p := ⟨Bd, 0, none⟩) hltB).trans c0, hb9⟩) (fun hHeld => ?_)
  clear hK K
  try simp only [nrm]
  refine tkL 6 (v := ?_) rfl ?_ ?_
  rotate_left
  · (intro w hSw; (try dsimp only at hSw); go_simp; try with_reducible rfl)
  try simp only [nrm]
  refine tkL 7 (v := ?_) rfl ?_ ?_
  rotate_left
  · (intro w hSw; (try dsimp only at hSw); go_simp; try with_reducible rfl)
  try simp only [nrm]
  refine wpAnyL_ready (rs := [8]) (by kernel_rfl) (by simp) ?_
  refine AllReadyL.store (o := _) rfl (by decide) (by decide) (fun K hK => ?_) AllReadyL.nil
  go_simp
  refine hK.out _ _ ?_
  clear hK K
  try simp only [nrm]
  refine wpAnyL_done (by kernel_rfl) ?_ _
  go_wp2
  go_end0
  exact ⟨rfl, H8.out⟩

def WrPost2 (Fp : Nat → Prop) (w : World) (Bd : Nat) (d : DS) (m : Nat) (n t : Nm) (w' : World) : Prop := ∃ b, ¬ d.Has b ∧ OpPost Fp w Bd (wrD d n b t) m w'
set_option maxHeartbeats 2000000 in
theorem app1_any (h : DV Fp w Bd mn ms vs d m) (hne : mn ≠ ms) (hF : Up Fp w) (s : ByteArray) (hs : s.size ≤ 100000000) (t : ByteArray) (ht : hasL d s.data.toList + t.size ≤ 1048576) (hroom : getD d.now s.data.toList = none → d.now.length < m)
    (x y z : Nat) (hx : w.cell? ⟨x, 0, none⟩ = some (.pointer (some ⟨Bd, 0, none⟩))) (hy : w.cell? ⟨y, 0, none⟩ = some (.string s)) (hz : w.cell? ⟨z, 0, none⟩ = some (.string t)) :
    Calls Tryz.prog 50 #[.pointer (some ⟨x, 0, none⟩), .pointer (some ⟨y, 0, none⟩), .pointer (some ⟨z, 0, none⟩)] w fun e w' => e = .returned (.tuple #[]) ∧ WrPost2 Fp w Bd d m s.data.toList t.data.toList w' := by
  have WC := (write_any h hne hF s hs t ht hroom).mono (R' := fun e w' => e = .returned (.tuple #[]) ∧ WrPost2 Fp w Bd d m s.data.toList t.data.toList w') (by
    rintro e w' ⟨rfl, b, vs', h1, h2, h3⟩
    exact ⟨rfl, b, h1, ⟨_, _, _, hne, h2⟩, h3⟩)
  have WH := Lib.hid WC
  clear WC h hF ht hroom hne
  go_enter Tryz.func50, Tryz.ntmps50
  go_wp2_with (refine WH.out.mono ?_; rintro e w1 ⟨rfl, H1⟩)
  go_end0
  exact ⟨rfl, H1⟩

def delF (d : DS) (n : Nm) : DS := { d with now := delD d.now n }
theorem DV.del (h : DV Fp w Bd mn ms vs d m) (hne : mn ≠ ms) (s : ByteArray) (hs : s.size ≤ 9223372036854775807) (ty : TypeId) :
    ∃ w', (Builtin.delete_ #[60, 9] ty #[.map (some mn), .string s]).run Tryz.prog w = .ok (.tuple #[]) w' ∧ DV Fp w' Bd mn ms vs (delF d s.data.toList) m ∧ Oth Fp w w' ∧ w.grownBy w' (some mn) := by
  obtain ⟨w', hr, ho, hg⟩ := h.mapN.drop (string_keyed Tryz.underlying9) Tryz.underlying60 (WideMaps.keyOf_string_mk Tryz.underlying9 (s := s) (by unfold maxLen; omega)) ty
  rw [dat_del] at ho
  have hgr := hg.grown
  have hl := length_delD d.now s.data.toList
  have := h.lenN
  exact ⟨w', hr, h.turnN hne ho hgr (h.srtN.del _) (by omega) (fun b ⟨x, hx⟩ => ⟨x, .inl (mem_delD.1 hx).1⟩), (Oth.refl Fp w).grown hgr (fun k e => by cases e; exact h.fN), hgr⟩
set_option maxHeartbeats 4000000 in
set_option maxRecDepth 100000 in
theorem rem1_any (h : DV Fp w Bd mn ms vs d m) (hne : mn ≠ ms) (s : ByteArray) (hs : s.size ≤ 9223372036854775807) (x y : Nat) (hx : w.cell? ⟨x, 0, none⟩ = some (.pointer (some ⟨Bd, 0, none⟩))) (hy : w.cell? ⟨y, 0, none⟩ = some (.string s)) :
    Calls Tryz.prog 82 #[.pointer (some ⟨x, 0, none⟩), .pointer (some ⟨y, 0, none⟩)] w fun e w' => e = .returned (.tuple #[]) ∧ OpPost Fp w Bd (delF d s.data.toList) m w' := by
  have c0 := h.c0
  have hd : DV Fp w.drew Bd mn ms vs d m := h.kept (fun _ _ _ => rfl)
  obtain ⟨w1, hr, hD, hO, _⟩ := hd.del hne s hs 0
  have HP : Hid (OpPost Fp w Bd (delF d s.data.toList) m w1) := Lib.hid ⟨⟨_, _, _, hne, hD⟩, ((Oth.refl Fp w).drew).trans hO⟩
  have hk : w.drew.cell? ⟨x, 0, none⟩ = some (.pointer (some ⟨Bd, 0, none⟩)) ∧ w.drew.cell? ⟨Bd, 0, none⟩ = some (.map (some mn)) ∧ w.drew.cell? ⟨y, 0, none⟩ = some (.string s) := ⟨hx, c0, hy⟩
  clear h hd hD hO
  go_enter Tryz.func82, Tryz.ntmps82
  go_wp2
  refine wp_region_L (st := [5]) (S := fun w' => w'.cell? ⟨x, 0, none⟩ = some (.pointer (some ⟨Bd, 0, none⟩)) ∧ w'.cell? ⟨Bd, 0, none⟩ = some (.map (some mn)) ∧ w'.cell? ⟨y, 0, none⟩ = some (.string s)) (by kernel_rfl) (hk) (fun hHeld => ?_)
  refine tkL 0 (v := ?_) rfl ?_ ?_
  rotate_left
  · (intro w hSw; (try dsimp only at hSw); go_simp; try with_reducible rfl)
  try simp only [nrm]
  refine tkL 1 (v := ?_) rfl ?_ ?_
  rotate_left
  · (intro w hSw; (try dsimp only at hSw); go_simp; try with_reducible rfl)
  try simp only [nrm]
  refine tkL 2 (v := ?_) rfl ?_ ?_
  rotate_left
  · (intro w hSw; (try dsimp only at hSw); go_simp; try with_reducible rfl)
  try simp only [nrm]
  refine tkL 3 (v := ?_) rfl ?_ ?_
  rotate_left
  · (intro w hSw; (try dsimp only at hSw); go_simp; try with_reducible rfl)
  try simp only [nrm]
  refine tkL 4 (v := ?_) rfl ?_ ?_
  rotate_left
  · (intro w hSw; (try dsimp only at hSw); go_simp; try with_reducible rfl)
  try simp only [nrm]
  refine wpAnyL_ready (rs := [5]) (by kernel_rfl) (by simp) ?_
  refine AllReadyL.store (o := _) rfl (by decide) (by decide) (fun K hK => ?_) AllReadyL.nil
  go_simp
  refine hK.out _ _ ?_
  clear hK K
  try simp only [nrm]
  refine wpAnyL_done (by kernel_rfl) ?_ _
  go_wp2
  go_end0
  exact ⟨rfl, HP.out⟩
theorem drew5 {w w' : World} {a b c e : Addr} {u v x y : Value} {B : Nat} (h : w'.cell? a = some u ∧ w'.cell? b = some v ∧ w'.cell? c = some x ∧ w'.cell? e = some y ∧ Below B w w') : w'.drew.cell? a = some u ∧ w'.drew.cell? b = some v ∧ w'.drew.cell? c = some x ∧ w'.drew.cell? e = some y ∧ Below B w w'.drew := ⟨h.1, h.2.1, h.2.2.1, h.2.2.2.1, h.2.2.2.2.drew⟩
def renF (d : DS) (n k : Nm) (b : Nat) : DS := { d with now := putD (delD d.now n) k b }
theorem cell_grown {w w' : World} {a : Addr} {v : Value} {H : Type} {P : Program} {k : TypeId} {R : Value → Option (DataW H × List MemPlace)} {c n : Nat} {D : DataW H} (hc : w.cell? a = some v) (hm : w.ownsMap P k R c n D) (hg : w.grownBy w' (some c)) : w'.cell? a = some v := by
  have hlt := World.block_lt_of_cell? _ _ hc
  rw [World.cell?_of_block (hg.block a.block hlt (fun e => ?_))]
  · exact hc
  · obtain ⟨es, cl, hb⟩ := ownsMap_block hm
    rw [← Option.some.inj e] at hb
    simp [World.cell?, hb] at hc
theorem delD_lt {l : Dir} {n : Nm} {b : Nat} (h : (n, b) ∈ l) : (delD l n).length < l.length := by
  unfold delD
  exact List.length_filter_lt_length_iff_exists.2 ⟨_, h, by simp⟩
set_option maxHeartbeats 4000000 in
set_option maxRecDepth 100000 in
theorem ren1_any (h : DV Fp w Bd mn ms vs d m) (hne : mn ≠ ms) (s : ByteArray) (hs : s.size ≤ 9223372036854775807) (t : ByteArray) (ht : t.size ≤ 100000000) {b : Nat} (hg : getD d.now s.data.toList = some b) (x y z u : Nat)
    (hx : w.cell? ⟨x, 0, none⟩ = some (.pointer (some ⟨Bd, 0, none⟩))) (hy : w.cell? ⟨y, 0, none⟩ = some (.string s)) (hz : w.cell? ⟨z, 0, none⟩ = some (.pointer (some ⟨b, 0, none⟩))) (hu : w.cell? ⟨u, 0, none⟩ = some (.string t)) :
    Calls Tryz.prog 58 #[.pointer (some ⟨x, 0, none⟩), .pointer (some ⟨y, 0, none⟩), .pointer (some ⟨z, 0, none⟩), .pointer (some ⟨u, 0, none⟩)] w fun e w' => e = .returned (.tuple #[]) ∧ OpPost Fp w Bd (renF d s.data.toList t.data.toList b) m w' := by
  have c0 := h.c0
  have hd : DV Fp w.drew Bd mn ms vs d m := h.kept (fun _ _ _ => rfl)
  obtain ⟨w1, hr, hD, hO, hgr⟩ := hd.del hne s hs 0
  have hmem := getD_mem hg
  have SC := Lib.hid (fun w' => sclone_any t w' ht)
  have key : Hid (∀ w8, Below w1.heap.size w1 w8 → ∃ w9, (Instr.mapUpdate 60 (.map (some mn)) (.string t) (.pointer (some ⟨b, 0, none⟩))).run Tryz.prog w8 = .ok () w9 ∧ Hid (OpPost Fp w Bd (renF d s.data.toList t.data.toList b) m w9)) := by
    refine Lib.hid ?_
    intro w8 hb8
    have hD8 := hD.below hb8
    obtain ⟨w9, hr9, ho9, hg9⟩ := hD8.putN t ht b
    change w9.ownsMap Tryz.prog 9 ptrE mn (m + 1) (dat (putD (delD d.now s.data.toList) t.data.toList b)) at ho9
    have hG : w.drew.grownBy w9 (some mn) := ⟨hg9.os.trans (hb8.os.trans hgr.os), hg9.tape.trans (hb8.tape.trans hgr.tape), hg9.output.trans (hb8.output.trans hgr.output), Nat.le_trans hgr.size (Nat.le_trans hb8.size hg9.size), fun k hk hn => by
      rw [hg9.block k (Nat.lt_of_lt_of_le hk (Nat.le_trans hgr.size hb8.size)) hn, hb8.block k (Nat.lt_of_lt_of_le hk hgr.size), hgr.block k hk hn]⟩
    have hl := delD_lt hmem
    have hl2 := length_ins t.data.toList b (delD (delD d.now s.data.toList) t.data.toList)
    have hl3 := length_delD (delD d.now s.data.toList) t.data.toList
    have hl4 := h.lenN
    have hT := hd.turnN hne ho9 hG ((h.srtN.del _).put _ _) (by unfold putD; rw [hl2]; omega) (by
      rintro c ⟨n, hc⟩
      rcases mem_putD.1 hc with e | ⟨e, _⟩
      · simp at e; rw [e.2]; exact ⟨_, .inl hmem⟩
      · exact ⟨n, .inl (mem_delD.1 e).1⟩)
    exact ⟨w9, hr9, Lib.hid ⟨⟨_, _, _, hne, hT⟩, (Oth.refl Fp w).drew.trans ((Oth.refl Fp w.drew).grown hG (fun k e => by cases e; exact h.fN))⟩⟩
  have hk : w.drew.cell? ⟨x, 0, none⟩ = some (.pointer (some ⟨Bd, 0, none⟩)) ∧ w.drew.cell? ⟨Bd, 0, none⟩ = some (.map (some mn)) ∧ w.drew.cell? ⟨y, 0, none⟩ = some (.string s) := ⟨hx, c0, hy⟩
  have hk1 : w1.cell? ⟨x, 0, none⟩ = some (.pointer (some ⟨Bd, 0, none⟩)) ∧ w1.cell? ⟨Bd, 0, none⟩ = some (.map (some mn)) ∧ w1.cell? ⟨u, 0, none⟩ = some (.string t) ∧ w1.cell? ⟨z, 0, none⟩ = some (.pointer (some ⟨b, 0, none⟩)) ∧ Below w1.heap.size w1 w1 :=
    ⟨cell_grown (w := w.drew) hx hd.mapN hgr, hD.c0, cell_grown (w := w.drew) hu hd.mapN hgr, cell_grown (w := w.drew) hz hd.mapN hgr, Below.refl _ _⟩
  have l1 := World.block_lt_of_cell? _ _ hk1.1
  have l2 := World.block_lt_of_cell? _ _ hk1.2.1
  have l3 := World.block_lt_of_cell? _ _ hk1.2.2.1
  have l4 := World.block_lt_of_cell? _ _ hk1.2.2.2.1
  clear h hd hD hO hmem hg hgr
  go_enter Tryz.func58, Tryz.ntmps58
  go_wp2
  refine wp_region_L (st := [5]) (S := fun w' => w'.cell? ⟨x, 0, none⟩ = some (.pointer (some ⟨Bd, 0, none⟩)) ∧ w'.cell? ⟨Bd, 0, none⟩ = some (.map (some mn)) ∧ w'.cell? ⟨y, 0, none⟩ = some (.string s)) (by kernel_rfl) (hk) (fun hHeld => ?_)
  refine tkL 0 (v := ?_) rfl ?_ ?_
  rotate_left
  · (intro w hSw; (try dsimp only at hSw); go_simp; try with_reducible rfl)
  try simp only [nrm]
  refine tkL 1 (v := ?_) rfl ?_ ?_
  rotate_left
  · (intro w hSw; (try dsimp only at hSw); go_simp; try with_reducible rfl)
  try simp only [nrm]
  refine tkL 2 (v := ?_) rfl ?_ ?_
  rotate_left
  · (intro w hSw; (try dsimp only at hSw); go_simp; try with_reducible rfl)
  try simp only [nrm]
  refine tkL 3 (v := ?_) rfl ?_ ?_
  rotate_left
  · (intro w hSw; (try dsimp only at hSw); go_simp; try with_reducible rfl)
  try simp only [nrm]
  refine tkL 4 (v := ?_) rfl ?_ ?_
  rotate_left
  · (intro w hSw; (try dsimp only at hSw); go_simp; try with_reducible rfl)
  try simp only [nrm]
  refine wpAnyL_ready (rs := [5]) (by kernel_rfl) (by simp) ?_
  refine AllReadyL.store (o := _) rfl (by decide) (by decide) (fun K hK => ?_) AllReadyL.nil
  go_simp
  refine hK.out _ _ ?_
  clear hK K
  try simp only [nrm]
  refine wpAnyL_done (by kernel_rfl) ?_ _
  go_wp2
  refine wp_region_L (st := [7]) (S := fun w' => w'.cell? ⟨x, 0, none⟩ = some (.pointer (some ⟨Bd, 0, none⟩)) ∧ w'.cell? ⟨Bd, 0, none⟩ = some (.map (some mn)) ∧ w'.cell? ⟨u, 0, none⟩ = some (.string t) ∧ w'.cell? ⟨z, 0, none⟩ = some (.pointer (some ⟨b, 0, none⟩)) ∧ Below w1.heap.size w1 w') (by kernel_rfl) (drew5 hk1) (fun hHeld => ?_)
  refine tkL 0 (v := ?_) rfl ?_ ?_
  rotate_left
  · (intro w hSw; (try dsimp only at hSw); go_simp; try with_reducible rfl)
  try simp only [nrm]
  refine tkL 1 (v := ?_) rfl ?_ ?_
  rotate_left
  · (intro w hSw; (try dsimp only at hSw); go_simp; try with_reducible rfl)
  try simp only [nrm]
  refine tkL 2 (v := ?_) rfl ?_ ?_
  rotate_left
  · (intro w hSw; (try dsimp only at hSw); go_simp; try with_reducible rfl)
  try simp only [nrm]
  refine tkL 3 (v := ?_) rfl ?_ ?_
  rotate_left
  · (intro w hSw; (try dsimp only at hSw); go_simp; try with_reducible rfl)
  try simp only [nrm]
  refine tkL 4 (v := ?_) rfl ?_ ?_
  rotate_left
  · (intro w hSw; (try dsimp only at hSw); go_simp; try with_reducible rfl)
  try simp only [nrm]
  refine tkL 6 (v := ?_) rfl ?_ ?_
  rotate_left
  · (intro w hSw; (try dsimp only at hSw); go_simp; try with_reducible rfl)
  try simp only [nrm]
  refine rdL 5 rfl (fun K hK => ?_)
  go_simp
  refine (SC.out _).mono ?_
  rintro e w8 ⟨rfl, hb8⟩
  have hb9 := hHeld.2.2.2.2.trans (hb8.mono hHeld.2.2.2.2.size)
  obtain ⟨w9, q9, H9⟩ := key.out w8 hb9
  go_simp
  refine hK.out _ _ (⟨(hb9.cell (p := ⟨x, 0, none⟩) l1).trans hk1.1, (hb9.cell (p := ⟨Bd, 0, none⟩) l2).trans hk1.2.1, (hb9.cell (p := ⟨u, 0, none⟩) l3).trans hk1.2.2.1, (hb9.cell (p := ⟨z, 0, none⟩) l4).trans hk1.2.2.2.1, hb9⟩) (fun hHeld => ?_)
  clear hK K
  try simp only [nrm]
  refine wpAnyL_ready (rs := [7]) (by kernel_rfl) (by simp) ?_
  refine AllReadyL.store (o := _) rfl (by decide) (by decide) (fun K hK => ?_) AllReadyL.nil
  go_simp
  refine hK.out _ _ ?_
  clear hK K
  try simp only [nrm]
  refine wpAnyL_done (by kernel_rfl) ?_ _
  go_wp2
  go_end0
  exact ⟨rfl, H9.out⟩
end Go.Proofs.YtmlpkimbcjkbkaaGreatDoor
