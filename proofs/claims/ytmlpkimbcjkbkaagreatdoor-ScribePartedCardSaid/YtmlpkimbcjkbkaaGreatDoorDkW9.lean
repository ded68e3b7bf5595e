/-
  CONTRACTS of Sync, SyncDir, Truncate, Rename, Remove.
-/
import Derived.Test.YtmlpkimbcjkbkaaGreatDoorDkW7
namespace Go.Proofs.YtmlpkimbcjkbkaaGreatDoor
open Go.RowKit Go.Maps

variable {Fp : Nat → Prop} {w : World} {Bd mn ms : Nat} {vs : Nat → Value × Value} {d : DS} {m : Nat}
def appE (d : DS) (s t : ByteArray) : Int := if d.dead then 8 else if okN s = false then 1 else if roomE d s.data.toList t.size ≠ 0 then roomE d s.data.toList t.size else if d.left = 0 then 8 else 0
def appD (d : DS) (s t : ByteArray) (b : Nat) : DS := if d.dead then d else if okN s = false then d else if roomE d s.data.toList t.size ≠ 0 then d else if d.left = 0 then wrD (dieD d) s.data.toList b t.data.toList else wrD (decD d) s.data.toList b t.data.toList
def AppPost (Fp : Nat → Prop) (w : World) (Bd : Nat) (d : DS) (m : Nat) (s t : ByteArray) (e : Ending) (w' : World) : Prop := e = .returned (.int .i64 (appE d s t)) ∧ ∃ b, ¬ d.Has b ∧ OpPost Fp w Bd (appD d s t b) m w'

theorem OpPost.trans {d' : DS} {w1 w2 : World} (h : OpPost Fp w1 Bd d' m w2) (hO : Oth Fp w w1) : OpPost Fp w Bd d' m w2 := ⟨h.1, hO.trans h.2⟩
theorem room_ok {s : Nm} {k : Nat} (h : roomE d s k = 0) : (getD d.now s = none → d.now.length < 100) ∧ hasL d s + k ≤ 1048576 := by
  unfold roomE at h
  split at h
  · cases h
  · split at h
    · cases h
    · split at h
      · cases h
      · rename_i h1 h2 h3
        refine ⟨fun hn => ?_, by omega⟩
        apply Classical.byContradiction
        intro hc
        exact h1 ⟨hn, by omega⟩
/-- What the head of Append lays: a box for the disk, one for each text. -/
def box3 (w : World) (Bd : Nat) (s t : ByteArray) : World := ((w.alloc (.cells #[.pointer (some ⟨Bd, 0, none⟩)] 33)).alloc (.cells #[.string s] 9)).alloc (.cells #[.string t] 9)
theorem box3_size (w : World) (Bd : Nat) (s t : ByteArray) : (box3 w Bd s t).heap.size = w.heap.size + 3 := by simp [box3]
theorem box3_oth (w : World) (Bd : Nat) (s t : ByteArray) : Oth Fp w (box3 w Bd s t) := (((Oth.refl Fp w).alloc _).alloc _).alloc _
theorem DV.box3 (h : DV Fp w Bd mn ms vs d m) (s t : ByteArray) : DV Fp (box3 w Bd s t) Bd mn ms vs d m := ((h.alloc _).alloc _).alloc _
theorem box3_c0 (w : World) (Bd : Nat) (s t : ByteArray) : (box3 w Bd s t).cell? ⟨w.heap.size, 0, none⟩ = some (.pointer (some ⟨Bd, 0, none⟩)) := by simp [box3, go_sem]
theorem box3_c1 (w : World) (Bd : Nat) (s t : ByteArray) : (box3 w Bd s t).cell? ⟨w.heap.size + 1, 0, none⟩ = some (.string s) := by simp [box3, go_sem]
theorem box3_c2 (w : World) (Bd : Nat) (s t : ByteArray) : (box3 w Bd s t).cell? ⟨w.heap.size + 2, 0, none⟩ = some (.string t) := by simp [box3, go_sem]
theorem die_has (d : DS) : (dieD d).Has = d.Has := rfl
theorem dec_has (d : DS) : (decD d).Has = d.Has := by unfold decD; split <;> rfl
theorem dec_now (d : DS) : (decD d).now = d.now := by unfold decD; split <;> rfl
theorem dec_fs (d : DS) : (decD d).fs = d.fs := by unfold decD; split <;> rfl
theorem Oth.up {w w' : World} (h : Oth Fp w w') (hF : Up Fp w) : Up Fp w' := hF.mono h.size
set_option maxHeartbeats 4000000 in
set_option maxRecDepth 100000 in
theorem append_any (h : DV Fp w Bd mn ms vs d m) (hne : mn ≠ ms) (hF : Up Fp w) (s : ByteArray) (hs : s.size ≤ 9223372036854775807) (t : ByteArray) (ht : t.size ≤ 100000000) (hm : 100 ≤ m) :
    Calls Tryz.prog 21 #[.pointer (some ⟨Bd, 0, none⟩), .string s, .string t] w (AppPost Fp w Bd d m s t) := by
  have hB := h.box3 s t
  have c4 := hB.c4
  have b0 := box3_c0 w Bd s t
  have b1 := box3_c1 w Bd s t
  have b2 := box3_c2 w Bd s t
  have hO := box3_oth (Fp := Fp) w Bd s t
  have hsz := box3_size w Bd s t
  have hltB := h.ltB
  have hfr := h.fresh
  cases hd : d.dead with
  | true =>
    have HP : Hid (AppPost Fp w Bd d m s t (.returned (.int .i64 8)) (box3 w Bd s t)) := Lib.hid ⟨by simp [appE, hd], w.heap.size, hfr, by simp only [appD, hd]; exact ⟨⟨_, _, _, hne, hB⟩, hO⟩⟩
    rw [hd] at c4
    unfold box3 at *
    clear h hB hO hfr hne hF
    go_enter Tryz.func21, Tryz.ntmps21
    go_wp2
    go_ret
    exact HP.out
  | false =>
    rw [hd] at c4
    have NC := Lib.hid (name_any s (box3 w Bd s t) hs)
    cases hn : okN s with
    | false =>
      have HP : Hid (AppPost Fp w Bd d m s t (.returned (.int .i64 1)) (box3 w Bd s t)) := Lib.hid ⟨by simp [appE, hd, hn], w.heap.size, hfr, by simp only [appD, hd, hn]; exact ⟨⟨_, _, _, hne, hB⟩, hO⟩⟩
      rw [hn] at NC
      unfold box3 at *
      clear h hB hO hfr hne hF
      go_enter Tryz.func21, Tryz.ntmps21
      go_wp2_with (refine NC.out.mono ?_; rintro e w1 ⟨rfl, rfl⟩)
      go_ret
      exact HP.out
    | true =>
      rw [hn] at NC
      by_cases hr : roomE d s.data.toList t.size = 0
      · obtain ⟨hr1, hr2⟩ := room_ok hr
        have RC := room_any hB s hs t.size ht
        rw [hr] at RC
        have RH := Lib.hid RC
        have bne : ∀ i, w.heap.size + i ≠ Bd := fun i => by omega
        have DC : Hid (∀ w5, Below (box3 w Bd s t).heap.size (box3 w Bd s t) w5 → Calls Tryz.prog 52 #[.pointer (some ⟨Bd, 0, none⟩), .func (.func 50) #[] #[.pointer (some ⟨w.heap.size, 0, none⟩), .pointer (some ⟨w.heap.size + 1, 0, none⟩), .pointer (some ⟨w.heap.size + 2, 0, none⟩)], .func (.func 50) #[] #[.pointer (some ⟨w.heap.size, 0, none⟩), .pointer (some ⟨w.heap.size + 1, 0, none⟩), .pointer (some ⟨w.heap.size + 2, 0, none⟩)]] w5 (fun e w' => ∃ v : Int, e = .returned (.int .i64 v) ∧ Hid (AppPost Fp w Bd d m s t (.returned (.int .i64 v)) w'))) := by
          refine Lib.hid ?_
          intro w5 hb5
          have h5 := hB.below hb5
          have c0 : w5.cell? ⟨w.heap.size, 0, none⟩ = some (.pointer (some ⟨Bd, 0, none⟩)) := (hb5.cell (p := ⟨w.heap.size, 0, none⟩) (by rw [hsz]; show w.heap.size < w.heap.size + 3; omega)).trans b0
          have c1 : w5.cell? ⟨w.heap.size + 1, 0, none⟩ = some (.string s) := (hb5.cell (p := ⟨w.heap.size + 1, 0, none⟩) (by rw [hsz]; show w.heap.size + 1 < w.heap.size + 3; omega)).trans b1
          have c2 : w5.cell? ⟨w.heap.size + 2, 0, none⟩ = some (.string t) := (hb5.cell (p := ⟨w.heap.size + 2, 0, none⟩) (by rw [hsz]; show w.heap.size + 2 < w.heap.size + 3; omega)).trans b2
          have hO5 : Oth Fp w w5 := hO.trans (Oth.of_below hb5)
          have hF5 := hO5.up hF
          by_cases hl : d.left = 0
          · have hW := app1_any h5.die hne (h5.dieO.up hF5) s (by have := (okN_len hn).2; omega) t (by simpa [hasL, dieD] using hr2) (by simpa [dieD] using fun e => Nat.lt_of_lt_of_le (hr1 e) hm) w.heap.size (w.heap.size + 1) (w.heap.size + 2)
              ((dieW_cell (a := ⟨w.heap.size, 0, none⟩) (bne 0)).trans c0) ((dieW_cell (a := ⟨w.heap.size + 1, 0, none⟩) (bne 1)).trans c1) ((dieW_cell (a := ⟨w.heap.size + 2, 0, none⟩) (bne 2)).trans c2)
            refine (die_Append h5 hl _ _ _ _ hW).mono ?_
            rintro e w' ⟨rfl, b, hb, hP⟩
            exact ⟨8, rfl, Lib.hid ⟨by simp [appE, hd, hn, hr, hl], b, hb, by simp only [appD, hd, hn, hr, hl]; exact (hP.trans h5.dieO).trans hO5⟩⟩
          · have hW := app1_any h5.dec hne (h5.decO.up hF5) s (by have := (okN_len hn).2; omega) t (by simpa [hasL, dec_now, dec_fs] using hr2) (by rw [dec_now]; exact fun e => Nat.lt_of_lt_of_le (hr1 e) hm) w.heap.size (w.heap.size + 1) (w.heap.size + 2)
              ((decW_cell (a := ⟨w.heap.size, 0, none⟩) (bne 0)).trans c0) ((decW_cell (a := ⟨w.heap.size + 1, 0, none⟩) (bne 1)).trans c1) ((decW_cell (a := ⟨w.heap.size + 2, 0, none⟩) (bne 2)).trans c2)
            refine (do_Append h5 hl _ _ _ _ hW).mono ?_
            rintro e w' ⟨rfl, b, hb, hP⟩
            exact ⟨0, rfl, Lib.hid ⟨by simp [appE, hd, hn, hr, hl], b, by rw [dec_has] at hb; exact hb, by simp only [appD, hd, hn, hr, hl]; exact (hP.trans h5.decO).trans hO5⟩⟩
        clear RC hB hO hfr hne hF h hr hr1 hr2 bne
        have k0 : ∀ w5, Below (box3 w Bd s t).heap.size (box3 w Bd s t) w5 → w5.cell? ⟨w.heap.size, 0, none⟩ = some (.pointer (some ⟨Bd, 0, none⟩)) := fun w5 hb5 => (hb5.cell (p := ⟨w.heap.size, 0, none⟩) (by rw [hsz]; show w.heap.size < w.heap.size + 3; omega)).trans b0
        have K0 := Lib.hid k0
        clear k0
        unfold box3 at *
        go_enter Tryz.func21, Tryz.ntmps21
        go_wp2_with fail
        refine NC.out.mono ?_
        rintro e w1 ⟨rfl, rfl⟩
        go_wp2_with fail
        refine RH.out.mono ?_
        rintro e w5 ⟨rfl, hb5⟩
        have k5 := K0.out w5 hb5
        have D5 := DC.out w5 hb5
        clear hb5 RH DC K0
        go_wp2_with fail
        refine D5.mono ?_
        rintro e w6 ⟨v, rfl, H6⟩
        go_wp2
        go_ret
        exact H6.out
      · have RC := room_any hB s hs t.size ht
        have r0 : (roomE d s.data.toList t.size == 0) = false := by simpa using hr
        have HP : Hid (∀ w5, Below (box3 w Bd s t).heap.size (box3 w Bd s t) w5 → AppPost Fp w Bd d m s t (.returned (.int .i64 (roomE d s.data.toList t.size))) w5) := Lib.hid (fun w5 hb5 => ⟨by simp [appE, hd, hn, hr], w.heap.size, hfr, by simp only [appD, hd, hn]; rw [if_neg (by simp), if_neg (by simp), if_pos hr]; exact ⟨⟨_, _, _, hne, hB.below hb5⟩, hO.trans (Oth.of_below hb5)⟩⟩)
        have RH := Lib.hid RC
        clear RC hB hO hfr hne hF h hr
        generalize roomE d s.data.toList t.size = r at *
        unfold box3 at *
        go_enter Tryz.func21, Tryz.ntmps21
        go_wp2_with fail
        refine NC.out.mono ?_
        rintro e w1 ⟨rfl, rfl⟩
        go_wp2_with fail
        refine RH.out.mono ?_
        rintro e w5 ⟨rfl, hb5⟩
        have H5 := Lib.hid (HP.out w5 hb5)
        clear hb5 RH HP
        go_wp2
        go_ret
        exact H5.out
end Go.Proofs.YtmlpkimbcjkbkaaGreatDoor

namespace Go.Proofs.YtmlpkimbcjkbkaaGreatDoor
open Go.RowKit Go.Maps

variable {Fp : Nat → Prop} {w : World} {Bd mn ms : Nat} {vs : Nat → Value × Value} {d : DS} {m : Nat}
theorem find_none {n : Nm} (h : findV d n = none) : findE d n ≠ 0 := by
  unfold findV at h
  unfold findE
  cases hd : d.dead with
  | true => simp
  | false => rw [hd] at h; simp at h; simp [h]
theorem find_some {n : Nm} {b : Nat} (h : findV d n = some b) : findE d n = 0 ∧ getD d.now n = some b ∧ d.dead = false := by
  unfold findV at h
  unfold findE
  cases hd : d.dead with
  | true => rw [hd] at h; simp at h
  | false => rw [hd] at h; simp at h; simp [h]
def synE (d : DS) (s : ByteArray) : Int := if findE d s.data.toList ≠ 0 then findE d s.data.toList else if d.left = 0 then 8 else 0
def synD (d : DS) (s : ByteArray) : DS := match findV d s.data.toList with
  | none => d
  | some b => if d.left = 0 then dieD d else synF (decD d) b
def OpEnd (Fp : Nat → Prop) (w : World) (Bd : Nat) (d' : DS) (m : Nat) (v : Int) (e : Ending) (w' : World) : Prop := e = .returned (.int .i64 v) ∧ OpPost Fp w Bd d' m w'
theorem end_die {W : World} (h : DV Fp W Bd mn ms vs d m) (hne : mn ≠ ms) (hO : Oth Fp w W) : OpPost Fp w Bd (dieD d) m (W.setCell ⟨Bd, 4, none⟩ (.bool true)) := ⟨⟨_, _, _, hne, h.die⟩, hO.trans h.dieO⟩
theorem alloc_cell (w : World) (v : Value) (t : TypeId) : (w.alloc (.cells #[v] t)).cell? ⟨w.heap.size, 0, none⟩ = some v := by simp [go_sem]
theorem alloc_keep {w : World} {p : Addr} {v : Value} (h : w.cell? p = some v) (o : Obj) : (w.alloc o).cell? p = some v := by
  have hl := World.block_lt_of_cell? _ _ h
  exact (((Below.refl w.heap.size w).alloc (Nat.le_refl _) o).cell (p := p) hl).trans h
set_option maxHeartbeats 4000000 in
set_option maxRecDepth 100000 in
theorem sync_any (h : DV Fp w Bd mn ms vs d m) (hne : mn ≠ ms) (s : ByteArray) (hs : s.size ≤ 9223372036854775807) :
    Calls Tryz.prog 23 #[.pointer (some ⟨Bd, 0, none⟩), .string s] w (OpEnd Fp w Bd (synD d s) m (synE d s)) := by
  have FD := Lib.hid (find_any h s hs)
  have hltB := h.ltB
  cases hv : findV d s.data.toList with
  | none =>
    have he := find_none hv
    have he0 : (findE d s.data.toList != 0) = true := by simpa using he
    have HP : Hid (OpEnd Fp w Bd (synD d s) m (synE d s) (.returned (.int .i64 (findE d s.data.toList))) (w.alloc (.cells #[.pointer none] 106))) := Lib.hid ⟨by simp [synE, he], by simp only [synD, hv]; exact ⟨⟨_, _, _, hne, h.alloc _⟩, (Oth.refl Fp w).alloc _⟩⟩
    rw [hv] at FD
    unfold ptrV at FD
    generalize findE d s.data.toList = er at *
    clear h hne hv he
    go_enter Tryz.func23, Tryz.ntmps23
    go_wp2_with (refine FD.out.mono ?_; rintro e w1 ⟨rfl, rfl⟩)
    go_ret
    exact HP.out
  | some b =>
    obtain ⟨he, hg, hd⟩ := find_some hv
    have hA := h.alloc (.cells #[.pointer (some ⟨b, 0, none⟩)] 106)
    have hb := h.has_of_get hg
    have hO : Oth Fp w (w.alloc (.cells #[.pointer (some ⟨b, 0, none⟩)] 106)) := (Oth.refl Fp w).alloc _
    have hx := alloc_cell w (.pointer (some ⟨b, 0, none⟩)) 106
    have DC : Hid (Calls Tryz.prog 52 #[.pointer (some ⟨Bd, 0, none⟩), .func (.func 56) #[] #[.pointer (some ⟨w.heap.size, 0, none⟩)], .func (.func 57) #[] #[]] (w.alloc (.cells #[.pointer (some ⟨b, 0, none⟩)] 106)) fun e w' => ∃ v : Int, e = .returned (.int .i64 v) ∧ Hid (OpEnd Fp w Bd (synD d s) m (synE d s) (.returned (.int .i64 v)) w')) := by
      refine Lib.hid ?_
      by_cases hl : d.left = 0
      · refine (die_Sync hA hl _).mono ?_
        rintro e w' ⟨rfl, rfl⟩
        exact ⟨8, rfl, Lib.hid ⟨by simp [synE, he, hl], by simp only [synD, hv, hl]; exact end_die hA hne hO⟩⟩
      · have C := sync1_any hA.dec hne (b := b) (by rw [dec_has]; exact hb) w.heap.size ((decW_cell (a := ⟨w.heap.size, 0, none⟩) (by show w.heap.size ≠ Bd; omega)).trans hx)
        refine (do_Sync hA hl _ _ C).mono ?_
        rintro e w' ⟨rfl, hP⟩
        exact ⟨0, rfl, Lib.hid ⟨by simp [synE, he, hl], by simp only [synD, hv, hl]; exact (hP.trans hA.decO).trans hO⟩⟩
    rw [hv, he] at FD
    unfold ptrV at FD
    clear h hne hv he hA hb hO hx hg hd
    go_enter Tryz.func23, Tryz.ntmps23
    go_wp2_with fail
    refine FD.out.mono ?_
    rintro e w1 ⟨rfl, rfl⟩
    go_wp2_with fail
    refine DC.out.mono ?_
    rintro e w2 ⟨v, rfl, H⟩
    go_wp2
    go_ret
    exact H.out
def sdE (d : DS) : Int := if d.dead then 8 else if d.left = 0 then 8 else 0
def sdD (d : DS) : DS := if d.dead then d else if d.left = 0 then dieD d else sdirF (decD d)
set_option maxHeartbeats 4000000 in
set_option maxRecDepth 100000 in
theorem sdir_any (h : DV Fp w Bd mn ms vs d m) (hne : mn ≠ ms) (hF : Up Fp w) :
    Calls Tryz.prog 25 #[.pointer (some ⟨Bd, 0, none⟩)] w (OpEnd Fp w Bd (sdD d) m (sdE d)) := by
  have hltB := h.ltB
  have hA := h.alloc (.cells #[.pointer (some ⟨Bd, 0, none⟩)] 33)
  have hO : Oth Fp w (w.alloc (.cells #[.pointer (some ⟨Bd, 0, none⟩)] 33)) := (Oth.refl Fp w).alloc _
  have hx := alloc_cell w (.pointer (some ⟨Bd, 0, none⟩)) 33
  have hsz : (w.alloc (.cells #[.pointer (some ⟨Bd, 0, none⟩)] 33)).heap.size = w.heap.size + 1 := by simp
  have c4 := hA.c4
  cases hd : d.dead with
  | true =>
    have HP : Hid (OpEnd Fp w Bd (sdD d) m (sdE d) (.returned (.int .i64 8)) (w.alloc (.cells #[.pointer (some ⟨Bd, 0, none⟩)] 33))) := Lib.hid ⟨by simp [sdE, hd], by simp only [sdD, hd]; exact ⟨⟨_, _, _, hne, hA⟩, hO⟩⟩
    rw [hd] at c4
    clear h hne hA hO hF
    go_enter Tryz.func25, Tryz.ntmps25
    go_wp2
    go_ret
    exact HP.out
  | false =>
    have DC : Hid (Calls Tryz.prog 52 #[.pointer (some ⟨Bd, 0, none⟩), .func (.func 60) #[] #[.pointer (some ⟨w.heap.size, 0, none⟩)], .func (.func 57) #[] #[]] (w.alloc (.cells #[.pointer (some ⟨Bd, 0, none⟩)] 33)) fun e w' => ∃ v : Int, e = .returned (.int .i64 v) ∧ Hid (OpEnd Fp w Bd (sdD d) m (sdE d) (.returned (.int .i64 v)) w')) := by
      refine Lib.hid ?_
      by_cases hl : d.left = 0
      · refine (die_SyncDir hA hl _).mono ?_
        rintro e w' ⟨rfl, rfl⟩
        exact ⟨8, rfl, Lib.hid ⟨by simp [sdE, hl, hd], by simp only [sdD, hl, hd]; exact end_die hA hne hO⟩⟩
      · have C := sdir1_any hA.dec (hA.decO.up (hO.up hF)) w.heap.size (Nat.lt_of_lt_of_le (by rw [hsz]; omega) hA.decO.size) ((decW_cell (a := ⟨w.heap.size, 0, none⟩) (by show w.heap.size ≠ Bd; omega)).trans hx)
        refine (do_SyncDir hA hl _ _ C).mono ?_
        rintro e w' ⟨rfl, hP⟩
        exact ⟨0, rfl, Lib.hid ⟨by simp [sdE, hl, hd], by simp only [sdD, hl, hd]; exact (hP.trans hA.decO).trans hO⟩⟩
    rw [hd] at c4
    clear h hne hA hO hF hd
    go_enter Tryz.func25, Tryz.ntmps25
    go_wp2_with fail
    refine DC.out.mono ?_
    rintro e w2 ⟨v, rfl, H⟩
    go_wp2
    go_ret
    exact H.out
def remE (d : DS) (s : ByteArray) : Int := if findE d s.data.toList ≠ 0 then findE d s.data.toList else if d.left = 0 then 8 else 0
def remD (d : DS) (s : ByteArray) : DS := match findV d s.data.toList with
  | none => d
  | some _ => if d.left = 0 then dieD d else delF (decD d) s.data.toList
def box2 (w : World) (Bd : Nat) (s : ByteArray) : World := (w.alloc (.cells #[.pointer (some ⟨Bd, 0, none⟩)] 33)).alloc (.cells #[.string s] 9)
set_option maxHeartbeats 4000000 in
set_option maxRecDepth 100000 in
theorem rem_any (h : DV Fp w Bd mn ms vs d m) (hne : mn ≠ ms) (s : ByteArray) (hs : s.size ≤ 9223372036854775807) :
    Calls Tryz.prog 47 #[.pointer (some ⟨Bd, 0, none⟩), .string s] w (OpEnd Fp w Bd (remD d s) m (remE d s)) := by
  have hA : DV Fp (box2 w Bd s) Bd mn ms vs d m := (h.alloc _).alloc _
  have hO : Oth Fp w (box2 w Bd s) := ((Oth.refl Fp w).alloc _).alloc _
  have FD := Lib.hid (find_any hA s hs)
  have hltB := h.ltB
  have b0 : (box2 w Bd s).cell? ⟨w.heap.size, 0, none⟩ = some (.pointer (some ⟨Bd, 0, none⟩)) := by simp [box2, go_sem]
  have b1 : (box2 w Bd s).cell? ⟨w.heap.size + 1, 0, none⟩ = some (.string s) := by simp [box2, go_sem]
  cases hv : findV d s.data.toList with
  | none =>
    have he := find_none hv
    have he0 : (findE d s.data.toList != 0) = true := by simpa using he
    have HP : Hid (OpEnd Fp w Bd (remD d s) m (remE d s) (.returned (.int .i64 (findE d s.data.toList))) (box2 w Bd s)) := Lib.hid ⟨by simp [remE, he], by simp only [remD, hv]; exact ⟨⟨_, _, _, hne, hA⟩, hO⟩⟩
    rw [hv] at FD
    unfold ptrV at FD
    generalize findE d s.data.toList = er at *
    unfold box2 at *
    clear h hne hv he hA hO
    go_enter Tryz.func47, Tryz.ntmps47
    go_wp2_with (refine FD.out.mono ?_; rintro e w1 ⟨rfl, rfl⟩)
    go_ret
    exact HP.out
  | some b =>
    obtain ⟨he, hg, hd⟩ := find_some hv
    have DC : Hid (Calls Tryz.prog 52 #[.pointer (some ⟨Bd, 0, none⟩), .func (.func 82) #[] #[.pointer (some ⟨w.heap.size, 0, none⟩), .pointer (some ⟨w.heap.size + 1, 0, none⟩)], .func (.func 57) #[] #[]] (box2 w Bd s) fun e w' => ∃ v : Int, e = .returned (.int .i64 v) ∧ Hid (OpEnd Fp w Bd (remD d s) m (remE d s) (.returned (.int .i64 v)) w')) := by
      refine Lib.hid ?_
      by_cases hl : d.left = 0
      · refine (die_Remove hA hl _ _).mono ?_
        rintro e w' ⟨rfl, rfl⟩
        exact ⟨8, rfl, Lib.hid ⟨by simp [remE, he, hl], by simp only [remD, hv, hl]; exact end_die hA hne hO⟩⟩
      · have C := rem1_any hA.dec hne s hs w.heap.size (w.heap.size + 1) ((decW_cell (a := ⟨w.heap.size, 0, none⟩) (by show w.heap.size ≠ Bd; omega)).trans b0) ((decW_cell (a := ⟨w.heap.size + 1, 0, none⟩) (by show w.heap.size + 1 ≠ Bd; omega)).trans b1)
        refine (do_Remove hA hl _ _ _ C).mono ?_
        rintro e w' ⟨rfl, hP⟩
        exact ⟨0, rfl, Lib.hid ⟨by simp [remE, he, hl], by simp only [remD, hv, hl]; exact (hP.trans hA.decO).trans hO⟩⟩
    rw [hv, he] at FD
    unfold ptrV at FD
    unfold box2 at *
    clear h hne hv he hA hO hg hd
    go_enter Tryz.func47, Tryz.ntmps47
    go_wp2_with fail
    refine FD.out.mono ?_
    rintro e w1 ⟨rfl, rfl⟩
    go_wp2_with fail
    refine DC.out.mono ?_
    rintro e w2 ⟨v, rfl, H⟩
    go_wp2
    go_ret
    exact H.out
def renE (d : DS) (s t : ByteArray) : Int := if findE d s.data.toList ≠ 0 then findE d s.data.toList else if okN t = false then 1 else if d.left = 0 then 8 else 0
def renD (d : DS) (s t : ByteArray) : DS := match findV d s.data.toList with
  | none => d
  | some b => if okN t = false then d else if d.left = 0 then dieD d else renF (decD d) s.data.toList t.data.toList b
set_option maxHeartbeats 4000000 in
set_option maxRecDepth 100000 in
theorem ren_any (h : DV Fp w Bd mn ms vs d m) (hne : mn ≠ ms) (s : ByteArray) (hs : s.size ≤ 9223372036854775807) (t : ByteArray) (ht : t.size ≤ 9223372036854775807) :
    Calls Tryz.prog 24 #[.pointer (some ⟨Bd, 0, none⟩), .string s, .string t] w (OpEnd Fp w Bd (renD d s t) m (renE d s t)) := by
  have hB := h.box3 s t
  have hOB := box3_oth (Fp := Fp) w Bd s t
  have hsz := box3_size w Bd s t
  have FD := Lib.hid (find_any hB s hs)
  have hltB := h.ltB
  have b0 := box3_c0 w Bd s t
  have b1 := box3_c1 w Bd s t
  have b2 := box3_c2 w Bd s t
  cases hv : findV d s.data.toList with
  | none =>
    have he := find_none hv
    have he0 : (findE d s.data.toList != 0) = true := by simpa using he
    have HP : Hid (OpEnd Fp w Bd (renD d s t) m (renE d s t) (.returned (.int .i64 (findE d s.data.toList))) ((box3 w Bd s t).alloc (.cells #[.pointer none] 106))) := Lib.hid ⟨by simp [renE, he], by simp only [renD, hv]; exact ⟨⟨_, _, _, hne, hB.alloc _⟩, hOB.alloc _⟩⟩
    rw [hv] at FD
    unfold ptrV at FD
    generalize findE d s.data.toList = er at *
    unfold box3 at *
    clear h hne hv he hB hOB
    go_enter Tryz.func24, Tryz.ntmps24
    go_wp2_with (refine FD.out.mono ?_; rintro e w1 ⟨rfl, rfl⟩)
    go_ret
    exact HP.out
  | some b =>
    obtain ⟨he, hg, hd⟩ := find_some hv
    have hA := hB.alloc (.cells #[.pointer (some ⟨b, 0, none⟩)] 106)
    have hO := hOB.alloc (.cells #[.pointer (some ⟨b, 0, none⟩)] 106)
    have k3 := alloc_cell (box3 w Bd s t) (.pointer (some ⟨b, 0, none⟩)) 106
    rw [hsz] at k3
    have k0 := alloc_keep b0 (.cells #[.pointer (some ⟨b, 0, none⟩)] 106)
    have k1 := alloc_keep b1 (.cells #[.pointer (some ⟨b, 0, none⟩)] 106)
    have k2 := alloc_keep b2 (.cells #[.pointer (some ⟨b, 0, none⟩)] 106)
    have NC := Lib.hid (name_any t ((box3 w Bd s t).alloc (.cells #[.pointer (some ⟨b, 0, none⟩)] 106)) ht)
    rw [hv, he] at FD
    unfold ptrV at FD
    cases hn : okN t with
    | false =>
      have HP : Hid (OpEnd Fp w Bd (renD d s t) m (renE d s t) (.returned (.int .i64 1)) ((box3 w Bd s t).alloc (.cells #[.pointer (some ⟨b, 0, none⟩)] 106))) := Lib.hid ⟨by simp [renE, he, hn], by simp only [renD, hv, hn]; exact ⟨⟨_, _, _, hne, hA⟩, hO⟩⟩
      rw [hn] at NC
      unfold box3 at *
      clear h hne hv he hB hOB hg hd hA hO
      go_enter Tryz.func24, Tryz.ntmps24
      go_wp2_with fail
      refine FD.out.mono ?_
      rintro e w1 ⟨rfl, rfl⟩
      go_wp2_with fail
      refine NC.out.mono ?_
      rintro e w1 ⟨rfl, rfl⟩
      go_wp2
      go_ret
      exact HP.out
    | true =>
      have DC : Hid (Calls Tryz.prog 52 #[.pointer (some ⟨Bd, 0, none⟩), .func (.func 58) #[] #[.pointer (some ⟨w.heap.size, 0, none⟩), .pointer (some ⟨w.heap.size + 1, 0, none⟩), .pointer (some ⟨w.heap.size + 3, 0, none⟩), .pointer (some ⟨w.heap.size + 2, 0, none⟩)], .func (.func 57) #[] #[]] ((box3 w Bd s t).alloc (.cells #[.pointer (some ⟨b, 0, none⟩)] 106)) fun e w' => ∃ v : Int, e = .returned (.int .i64 v) ∧ Hid (OpEnd Fp w Bd (renD d s t) m (renE d s t) (.returned (.int .i64 v)) w')) := by
        refine Lib.hid ?_
        by_cases hl : d.left = 0
        · refine (die_Rename hA hl _ _ _ _).mono ?_
          rintro e w' ⟨rfl, rfl⟩
          exact ⟨8, rfl, Lib.hid ⟨by simp [renE, he, hl, hn], by simp only [renD, hv, hl, hn]; exact end_die hA hne hO⟩⟩
        · have C := ren1_any hA.dec hne s hs t (by have := (okN_len hn).2; omega) (b := b) (by rw [dec_now]; exact hg) w.heap.size (w.heap.size + 1) (w.heap.size + 3) (w.heap.size + 2) ((decW_cell (a := ⟨w.heap.size, 0, none⟩) (by show w.heap.size ≠ Bd; omega)).trans k0) ((decW_cell (a := ⟨w.heap.size + 1, 0, none⟩) (by show w.heap.size + 1 ≠ Bd; omega)).trans k1)
            ((decW_cell (a := ⟨w.heap.size + 3, 0, none⟩) (by show w.heap.size + 3 ≠ Bd; omega)).trans k3) ((decW_cell (a := ⟨w.heap.size + 2, 0, none⟩) (by show w.heap.size + 2 ≠ Bd; omega)).trans k2)
          refine (do_Rename hA hl _ _ _ _ _ C).mono ?_
          rintro e w' ⟨rfl, hP⟩
          exact ⟨0, rfl, Lib.hid ⟨by simp [renE, he, hl, hn], by simp only [renD, hv, hl, hn]; exact (hP.trans hA.decO).trans hO⟩⟩
      rw [hn] at NC
      unfold box3 at *
      clear h hne hv he hB hOB hg hd hA hO
      go_enter Tryz.func24, Tryz.ntmps24
      go_wp2_with fail
      refine FD.out.mono ?_
      rintro e w1 ⟨rfl, rfl⟩
      go_wp2_with fail
      refine NC.out.mono ?_
      rintro e w1 ⟨rfl, rfl⟩
      go_wp2_with fail
      refine DC.out.mono ?_
      rintro e w2 ⟨v, rfl, H⟩
      go_wp2
      go_ret
      exact H.out
end Go.Proofs.YtmlpkimbcjkbkaaGreatDoor
