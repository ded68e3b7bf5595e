/-
  CONTRACT of Append.
-/
import Derived.Test.YtjlkdglbnfifeaaGreatDoorDkW7
namespace Go.Proofs.YtjlkdglbnfifeaaGreatDoor
open Go.RowKit Go.Maps

variable {Fp : Nat → Prop} {w : World} {Bd mn ms : Nat} {vs : Nat → Value × Value} {d : DS} {m : Nat}
def appE (d : DS) (s t : ByteArray) : Int := if d.dead then 8 else if okN s = false then 1 else if roomE d s.data.toList t.size ≠ 0 then roomE d s.data.toList t.size else if d.left = 0 then 8 else 0
def appD (d : DS) (s t : ByteArray) (b : Nat) : DS := if d.dead then d else if okN s = false then d else if roomE d s.data.toList t.size ≠ 0 then d else if d.left = 0 then wrD (dieD d) s.data.toList b t.data.toList else wrD (decD d) s.data.toList b t.data.toList
def AppPost (Fp : Nat → Prop) (w : World) (Bd : Nat) (d : DS) (m : Nat) (s t : ByteArray) (e : Ending) (w' : World) : Prop := e = .returned (.int .i64 (appE d s t)) ∧ ∃ b, ¬ d.Has b ∧ OpPost Fp w Bd (appD d s t b) m w'

theorem OpPost.trans {d' : DS} {w1 w2 : World} (h : OpPost Fp w1 Bd d' m w2) (hO : Oth Fp w w1) : OpPost Fp w Bd d' m w2 := ⟨h.1, hO.trans h.2⟩
theorem room_ok {s : Nm} {k : Nat} (h : roomE d s k = 0) : (getD d.now s = none → d.now.length < 100) ∧ hasL d s + k ≤ 1048576 := by
  unfold roomE at h
  split at h
  · cases h
  · split at h
    · cases h
    · split at h
      · cases h
      · rename_i h1 h2 h3
        refine ⟨fun hn => ?_, by omega⟩
        apply Classical.byContradiction
        intro hc
        exact h1 ⟨hn, by omega⟩
/-- What the head of Append lays: a box for the disk, one for each text. -/
def box3 (w : World) (Bd : Nat) (s t : ByteArray) : World := ((w.alloc (.cells #[.pointer (some ⟨Bd, 0, none⟩)] 25)).alloc (.cells #[.string s] 9)).alloc (.cells #[.string t] 9)
theorem box3_size (w : World) (Bd : Nat) (s t : ByteArray) : (box3 w Bd s t).heap.size = w.heap.size + 3 := by simp [box3]
theorem box3_oth (w : World) (Bd : Nat) (s t : ByteArray) : Oth Fp w (box3 w Bd s t) := (((Oth.refl Fp w).alloc _).alloc _).alloc _
theorem DV.box3 (h : DV Fp w Bd mn ms vs d m) (s t : ByteArray) : DV Fp (box3 w Bd s t) Bd mn ms vs d m := ((h.alloc _).alloc _).alloc _
theorem box3_c0 (w : World) (Bd : Nat) (s t : ByteArray) : (box3 w Bd s t).cell? ⟨w.heap.size, 0, none⟩ = some (.pointer (some ⟨Bd, 0, none⟩)) := by simp [box3, go_sem]
theorem box3_c1 (w : World) (Bd : Nat) (s t : ByteArray) : (box3 w Bd s t).cell? ⟨w.heap.size + 1, 0, none⟩ = some (.string s) := by simp [box3, go_sem]
theorem box3_c2 (w : World) (Bd : Nat) (s t : ByteArray) : (box3 w Bd s t).cell? ⟨w.heap.size + 2, 0, none⟩ = some (.string t) := by simp [box3, go_sem]
theorem die_has (d : DS) : (dieD d).Has = d.Has := rfl
theorem dec_has (d : DS) : (decD d).Has = d.Has := by unfold decD; split <;> rfl
theorem dec_now (d : DS) : (decD d).now = d.now := by unfold decD; split <;> rfl
theorem dec_fs (d : DS) : (decD d).fs = d.fs := by unfold decD; split <;> rfl
theorem Oth.up {w w' : World} (h : Oth Fp w w') (hF : Up Fp w) : Up Fp w' := hF.mono h.size
set_option maxHeartbeats 4000000 in
set_option maxRecDepth 100000 in
theorem append_any (h : DV Fp w Bd mn ms vs d m) (hne : mn ≠ ms) (hF : Up Fp w) (s : ByteArray) (hs : s.size ≤ 9223372036854775807) (t : ByteArray) (ht : t.size ≤ 100000000) (hm : 100 ≤ m) :
    Calls Tryz.prog 19 #[.pointer (some ⟨Bd, 0, none⟩), .string s, .string t] w (AppPost Fp w Bd d m s t) := by
  have hB := h.box3 s t
  have c4 := hB.c4
  have b0 := box3_c0 w Bd s t
  have b1 := box3_c1 w Bd s t
  have b2 := box3_c2 w Bd s t
  have hO := box3_oth (Fp := Fp) w Bd s t
  have hsz := box3_size w Bd s t
  have hltB := h.ltB
  have hfr := h.fresh
  cases hd : d.dead with
  | true =>
    have HP : Hid (AppPost Fp w Bd d m s t (.returned (.int .i64 8)) (box3 w Bd s t)) := Lib.hid ⟨by simp [appE, hd], w.heap.size, hfr, by simp only [appD, hd]; exact ⟨⟨_, _, _, hne, hB⟩, hO⟩⟩
    rw [hd] at c4
    unfold box3 at *
    clear h hB hO hfr hne hF
    go_enter Tryz.func19, Tryz.ntmps19
    go_wp2
    go_ret
    exact HP.out
  | false =>
    rw [hd] at c4
    have NC := Lib.hid (name_any s (box3 w Bd s t) hs)
    cases hn : okN s with
    | false =>
      have HP : Hid (AppPost Fp w Bd d m s t (.returned (.int .i64 1)) (box3 w Bd s t)) := Lib.hid ⟨by simp [appE, hd, hn], w.heap.size, hfr, by simp only [appD, hd, hn]; exact ⟨⟨_, _, _, hne, hB⟩, hO⟩⟩
      rw [hn] at NC
      unfold box3 at *
      clear h hB hO hfr hne hF
      go_enter Tryz.func19, Tryz.ntmps19
      go_wp2_with (refine NC.out.mono ?_; rintro e w1 ⟨rfl, rfl⟩)
      go_ret
      exact HP.out
    | true =>
      rw [hn] at NC
      by_cases hr : roomE d s.data.toList t.size = 0
      · obtain ⟨hr1, hr2⟩ := room_ok hr
        have RC := room_any hB s hs t.size ht
        rw [hr] at RC
        have RH := Lib.hid RC
        have bne : ∀ i, w.heap.size + i ≠ Bd := fun i => by omega
        have DC : Hid (∀ w5, Below (box3 w Bd s t).heap.size (box3 w Bd s t) w5 → Calls Tryz.prog 43 #[.pointer (some ⟨Bd, 0, none⟩), .func (.func 41) #[] #[.pointer (some ⟨w.heap.size, 0, none⟩), .pointer (some ⟨w.heap.size + 1, 0, none⟩), .pointer (some ⟨w.heap.size + 2, 0, none⟩)], .func (.func 41) #[] #[.pointer (some ⟨w.heap.size, 0, none⟩), .pointer (some ⟨w.heap.size + 1, 0, none⟩), .pointer (some ⟨w.heap.size + 2, 0, none⟩)]] w5 (fun e w' => ∃ v : Int, e = .returned (.int .i64 v) ∧ Hid (AppPost Fp w Bd d m s t (.returned (.int .i64 v)) w'))) := by
          refine Lib.hid ?_
          intro w5 hb5
          have h5 := hB.below hb5
          have c0 : w5.cell? ⟨w.heap.size, 0, none⟩ = some (.pointer (some ⟨Bd, 0, none⟩)) := (hb5.cell (p := ⟨w.heap.size, 0, none⟩) (by rw [hsz]; show w.heap.size < w.heap.size + 3; omega)).trans b0
          have c1 : w5.cell? ⟨w.heap.size + 1, 0, none⟩ = some (.string s) := (hb5.cell (p := ⟨w.heap.size + 1, 0, none⟩) (by rw [hsz]; show w.heap.size + 1 < w.heap.size + 3; omega)).trans b1
          have c2 : w5.cell? ⟨w.heap.size + 2, 0, none⟩ = some (.string t) := (hb5.cell (p := ⟨w.heap.size + 2, 0, none⟩) (by rw [hsz]; show w.heap.size + 2 < w.heap.size + 3; omega)).trans b2
          have hO5 : Oth Fp w w5 := hO.trans (Oth.of_below hb5)
          have hF5 := hO5.up hF
          by_cases hl : d.left = 0
          · have hW := app1_any h5.die hne (h5.dieO.up hF5) s (by have := (okN_len hn).2; omega) t (by simpa [hasL, dieD] using hr2) (by simpa [dieD] using fun e => Nat.lt_of_lt_of_le (hr1 e) hm) w.heap.size (w.heap.size + 1) (w.heap.size + 2)
              ((dieW_cell (a := ⟨w.heap.size, 0, none⟩) (bne 0)).trans c0) ((dieW_cell (a := ⟨w.heap.size + 1, 0, none⟩) (bne 1)).trans c1) ((dieW_cell (a := ⟨w.heap.size + 2, 0, none⟩) (bne 2)).trans c2)
            refine (die_Append h5 hl _ _ _ _ hW).mono ?_
            rintro e w' ⟨rfl, b, hb, hP⟩
            exact ⟨8, rfl, Lib.hid ⟨by simp [appE, hd, hn, hr, hl], b, hb, by simp only [appD, hd, hn, hr, hl]; exact (hP.trans h5.dieO).trans hO5⟩⟩
          · have hW := app1_any h5.dec hne (h5.decO.up hF5) s (by have := (okN_len hn).2; omega) t (by simpa [hasL, dec_now, dec_fs] using hr2) (by rw [dec_now]; exact fun e => Nat.lt_of_lt_of_le (hr1 e) hm) w.heap.size (w.heap.size + 1) (w.heap.size + 2)
              ((decW_cell (a := ⟨w.heap.size, 0, none⟩) (bne 0)).trans c0) ((decW_cell (a := ⟨w.heap.size + 1, 0, none⟩) (bne 1)).trans c1) ((decW_cell (a := ⟨w.heap.size + 2, 0, none⟩) (bne 2)).trans c2)
            refine (do_Append h5 hl _ _ _ _ hW).mono ?_
            rintro e w' ⟨rfl, b, hb, hP⟩
            exact ⟨0, rfl, Lib.hid ⟨by simp [appE, hd, hn, hr, hl], b, by rw [dec_has] at hb; exact hb, by simp only [appD, hd, hn, hr, hl]; exact (hP.trans h5.decO).trans hO5⟩⟩
        clear RC hB hO hfr hne hF h hr hr1 hr2 bne
        have k0 : ∀ w5, Below (box3 w Bd s t).heap.size (box3 w Bd s t) w5 → w5.cell? ⟨w.heap.size, 0, none⟩ = some (.pointer (some ⟨Bd, 0, none⟩)) := fun w5 hb5 => (hb5.cell (p := ⟨w.heap.size, 0, none⟩) (by rw [hsz]; show w.heap.size < w.heap.size + 3; omega)).trans b0
        have K0 := Lib.hid k0
        clear k0
        unfold box3 at *
        go_enter Tryz.func19, Tryz.ntmps19
        go_wp2_with fail
        refine NC.out.mono ?_
        rintro e w1 ⟨rfl, rfl⟩
        go_wp2_with fail
        refine RH.out.mono ?_
        rintro e w5 ⟨rfl, hb5⟩
        have k5 := K0.out w5 hb5
        have D5 := DC.out w5 hb5
        clear hb5 RH DC K0
        go_wp2_with fail
        refine D5.mono ?_
        rintro e w6 ⟨v, rfl, H6⟩
        go_wp2
        go_ret
        exact H6.out
      · have RC := room_any hB s hs t.size ht
        have r0 : (roomE d s.data.toList t.size == 0) = false := by simpa using hr
        have HP : Hid (∀ w5, Below (box3 w Bd s t).heap.size (box3 w Bd s t) w5 → AppPost Fp w Bd d m s t (.returned (.int .i64 (roomE d s.data.toList t.size))) w5) := Lib.hid (fun w5 hb5 => ⟨by simp [appE, hd, hn, hr], w.heap.size, hfr, by simp only [appD, hd, hn]; rw [if_neg (by simp), if_neg (by simp), if_pos hr]; exact ⟨⟨_, _, _, hne, hB.below hb5⟩, hO.trans (Oth.of_below hb5)⟩⟩)
        have RH := Lib.hid RC
        clear RC hB hO hfr hne hF h hr
        generalize roomE d s.data.toList t.size = r at *
        unfold box3 at *
        go_enter Tryz.func19, Tryz.ntmps19
        go_wp2_with fail
        refine NC.out.mono ?_
        rintro e w1 ⟨rfl, rfl⟩
        go_wp2_with fail
        refine RH.out.mono ?_
        rintro e w5 ⟨rfl, hb5⟩
        have H5 := Lib.hid (HP.out w5 hb5)
        clear hb5 RH HP
        go_wp2
        go_ret
        exact H5.out
end Go.Proofs.YtjlkdglbnfifeaaGreatDoor
