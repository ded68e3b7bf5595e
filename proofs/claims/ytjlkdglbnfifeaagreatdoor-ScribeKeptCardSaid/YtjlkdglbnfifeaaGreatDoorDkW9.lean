/-
  CONTRACTS of Sync, SyncDir, Truncate, Rename, Remove.
-/
import Derived.Test.YtjlkdglbnfifeaaGreatDoorDkW8
namespace Go.Proofs.YtjlkdglbnfifeaaGreatDoor
open Go.RowKit Go.Maps

variable {Fp : Nat → Prop} {w : World} {Bd mn ms : Nat} {vs : Nat → Value × Value} {d : DS} {m : Nat}
theorem find_none {n : Nm} (h : findV d n = none) : findE d n ≠ 0 := by
  unfold findV at h
  unfold findE
  cases hd : d.dead with
  | true => simp
  | false => rw [hd] at h; simp at h; simp [h]
theorem find_some {n : Nm} {b : Nat} (h : findV d n = some b) : findE d n = 0 ∧ getD d.now n = some b ∧ d.dead = false := by
  unfold findV at h
  unfold findE
  cases hd : d.dead with
  | true => rw [hd] at h; simp at h
  | false => rw [hd] at h; simp at h; simp [h]
def synE (d : DS) (s : ByteArray) : Int := if findE d s.data.toList ≠ 0 then findE d s.data.toList else if d.left = 0 then 8 else 0
def synD (d : DS) (s : ByteArray) : DS := match findV d s.data.toList with
  | none => d
  | some b => if d.left = 0 then dieD d else synF (decD d) b
def OpEnd (Fp : Nat → Prop) (w : World) (Bd : Nat) (d' : DS) (m : Nat) (v : Int) (e : Ending) (w' : World) : Prop := e = .returned (.int .i64 v) ∧ OpPost Fp w Bd d' m w'
theorem end_die {W : World} (h : DV Fp W Bd mn ms vs d m) (hne : mn ≠ ms) (hO : Oth Fp w W) : OpPost Fp w Bd (dieD d) m (W.setCell ⟨Bd, 4, none⟩ (.bool true)) := ⟨⟨_, _, _, hne, h.die⟩, hO.trans h.dieO⟩
theorem alloc_cell (w : World) (v : Value) (t : TypeId) : (w.alloc (.cells #[v] t)).cell? ⟨w.heap.size, 0, none⟩ = some v := by simp [go_sem]
theorem alloc_keep {w : World} {p : Addr} {v : Value} (h : w.cell? p = some v) (o : Obj) : (w.alloc o).cell? p = some v := by
  have hl := World.block_lt_of_cell? _ _ h
  exact (((Below.refl w.heap.size w).alloc (Nat.le_refl _) o).cell (p := p) hl).trans h
set_option maxHeartbeats 4000000 in
set_option maxRecDepth 100000 in
theorem sync_any (h : DV Fp w Bd mn ms vs d m) (hne : mn ≠ ms) (s : ByteArray) (hs : s.size ≤ 9223372036854775807) :
    Calls Tryz.prog 21 #[.pointer (some ⟨Bd, 0, none⟩), .string s] w (OpEnd Fp w Bd (synD d s) m (synE d s)) := by
  have FD := Lib.hid (find_any h s hs)
  have hltB := h.ltB
  cases hv : findV d s.data.toList with
  | none =>
    have he := find_none hv
    have he0 : (findE d s.data.toList != 0) = true := by simpa using he
    have HP : Hid (OpEnd Fp w Bd (synD d s) m (synE d s) (.returned (.int .i64 (findE d s.data.toList))) (w.alloc (.cells #[.pointer none] 59))) := Lib.hid ⟨by simp [synE, he], by simp only [synD, hv]; exact ⟨⟨_, _, _, hne, h.alloc _⟩, (Oth.refl Fp w).alloc _⟩⟩
    rw [hv] at FD
    unfold ptrV at FD
    generalize findE d s.data.toList = er at *
    clear h hne hv he
    go_enter Tryz.func21, Tryz.ntmps21
    go_wp2_with (refine FD.out.mono ?_; rintro e w1 ⟨rfl, rfl⟩)
    go_ret
    exact HP.out
  | some b =>
    obtain ⟨he, hg, hd⟩ := find_some hv
    have hA := h.alloc (.cells #[.pointer (some ⟨b, 0, none⟩)] 59)
    have hb := h.has_of_get hg
    have hO : Oth Fp w (w.alloc (.cells #[.pointer (some ⟨b, 0, none⟩)] 59)) := (Oth.refl Fp w).alloc _
    have hx := alloc_cell w (.pointer (some ⟨b, 0, none⟩)) 59
    have DC : Hid (Calls Tryz.prog 43 #[.pointer (some ⟨Bd, 0, none⟩), .func (.func 47) #[] #[.pointer (some ⟨w.heap.size, 0, none⟩)], .func (.func 48) #[] #[]] (w.alloc (.cells #[.pointer (some ⟨b, 0, none⟩)] 59)) fun e w' => ∃ v : Int, e = .returned (.int .i64 v) ∧ Hid (OpEnd Fp w Bd (synD d s) m (synE d s) (.returned (.int .i64 v)) w')) := by
      refine Lib.hid ?_
      by_cases hl : d.left = 0
      · refine (die_Sync hA hl _).mono ?_
        rintro e w' ⟨rfl, rfl⟩
        exact ⟨8, rfl, Lib.hid ⟨by simp [synE, he, hl], by simp only [synD, hv, hl]; exact end_die hA hne hO⟩⟩
      · have C := sync1_any hA.dec hne (b := b) (by rw [dec_has]; exact hb) w.heap.size ((decW_cell (a := ⟨w.heap.size, 0, none⟩) (by show w.heap.size ≠ Bd; omega)).trans hx)
        refine (do_Sync hA hl _ _ C).mono ?_
        rintro e w' ⟨rfl, hP⟩
        exact ⟨0, rfl, Lib.hid ⟨by simp [synE, he, hl], by simp only [synD, hv, hl]; exact (hP.trans hA.decO).trans hO⟩⟩
    rw [hv, he] at FD
    unfold ptrV at FD
    clear h hne hv he hA hb hO hx hg hd
    go_enter Tryz.func21, Tryz.ntmps21
    go_wp2_with fail
    refine FD.out.mono ?_
    rintro e w1 ⟨rfl, rfl⟩
    go_wp2_with fail
    refine DC.out.mono ?_
    rintro e w2 ⟨v, rfl, H⟩
    go_wp2
    go_ret
    exact H.out
def sdE (d : DS) : Int := if d.dead then 8 else if d.left = 0 then 8 else 0
def sdD (d : DS) : DS := if d.dead then d else if d.left = 0 then dieD d else sdirF (decD d)
set_option maxHeartbeats 4000000 in
set_option maxRecDepth 100000 in
theorem sdir_any (h : DV Fp w Bd mn ms vs d m) (hne : mn ≠ ms) (hF : Up Fp w) :
    Calls Tryz.prog 23 #[.pointer (some ⟨Bd, 0, none⟩)] w (OpEnd Fp w Bd (sdD d) m (sdE d)) := by
  have hltB := h.ltB
  have hA := h.alloc (.cells #[.pointer (some ⟨Bd, 0, none⟩)] 25)
  have hO : Oth Fp w (w.alloc (.cells #[.pointer (some ⟨Bd, 0, none⟩)] 25)) := (Oth.refl Fp w).alloc _
  have hx := alloc_cell w (.pointer (some ⟨Bd, 0, none⟩)) 25
  have hsz : (w.alloc (.cells #[.pointer (some ⟨Bd, 0, none⟩)] 25)).heap.size = w.heap.size + 1 := by simp
  have c4 := hA.c4
  cases hd : d.dead with
  | true =>
    have HP : Hid (OpEnd Fp w Bd (sdD d) m (sdE d) (.returned (.int .i64 8)) (w.alloc (.cells #[.pointer (some ⟨Bd, 0, none⟩)] 25))) := Lib.hid ⟨by simp [sdE, hd], by simp only [sdD, hd]; exact ⟨⟨_, _, _, hne, hA⟩, hO⟩⟩
    rw [hd] at c4
    clear h hne hA hO hF
    go_enter Tryz.func23, Tryz.ntmps23
    go_wp2
    go_ret
    exact HP.out
  | false =>
    have DC : Hid (Calls Tryz.prog 43 #[.pointer (some ⟨Bd, 0, none⟩), .func (.func 50) #[] #[.pointer (some ⟨w.heap.size, 0, none⟩)], .func (.func 48) #[] #[]] (w.alloc (.cells #[.pointer (some ⟨Bd, 0, none⟩)] 25)) fun e w' => ∃ v : Int, e = .returned (.int .i64 v) ∧ Hid (OpEnd Fp w Bd (sdD d) m (sdE d) (.returned (.int .i64 v)) w')) := by
      refine Lib.hid ?_
      by_cases hl : d.left = 0
      · refine (die_SyncDir hA hl _).mono ?_
        rintro e w' ⟨rfl, rfl⟩
        exact ⟨8, rfl, Lib.hid ⟨by simp [sdE, hl, hd], by simp only [sdD, hl, hd]; exact end_die hA hne hO⟩⟩
      · have C := sdir1_any hA.dec (hA.decO.up (hO.up hF)) w.heap.size (Nat.lt_of_lt_of_le (by rw [hsz]; omega) hA.decO.size) ((decW_cell (a := ⟨w.heap.size, 0, none⟩) (by show w.heap.size ≠ Bd; omega)).trans hx)
        refine (do_SyncDir hA hl _ _ C).mono ?_
        rintro e w' ⟨rfl, hP⟩
        exact ⟨0, rfl, Lib.hid ⟨by simp [sdE, hl, hd], by simp only [sdD, hl, hd]; exact (hP.trans hA.decO).trans hO⟩⟩
    rw [hd] at c4
    clear h hne hA hO hF hd
    go_enter Tryz.func23, Tryz.ntmps23
    go_wp2_with fail
    refine DC.out.mono ?_
    rintro e w2 ⟨v, rfl, H⟩
    go_wp2
    go_ret
    exact H.out
def remE (d : DS) (s : ByteArray) : Int := if findE d s.data.toList ≠ 0 then findE d s.data.toList else if d.left = 0 then 8 else 0
def remD (d : DS) (s : ByteArray) : DS := match findV d s.data.toList with
  | none => d
  | some _ => if d.left = 0 then dieD d else delF (decD d) s.data.toList
def box2 (w : World) (Bd : Nat) (s : ByteArray) : World := (w.alloc (.cells #[.pointer (some ⟨Bd, 0, none⟩)] 25)).alloc (.cells #[.string s] 9)
set_option maxHeartbeats 4000000 in
set_option maxRecDepth 100000 in
theorem rem_any (h : DV Fp w Bd mn ms vs d m) (hne : mn ≠ ms) (s : ByteArray) (hs : s.size ≤ 9223372036854775807) :
    Calls Tryz.prog 38 #[.pointer (some ⟨Bd, 0, none⟩), .string s] w (OpEnd Fp w Bd (remD d s) m (remE d s)) := by
  have hA : DV Fp (box2 w Bd s) Bd mn ms vs d m := (h.alloc _).alloc _
  have hO : Oth Fp w (box2 w Bd s) := ((Oth.refl Fp w).alloc _).alloc _
  have FD := Lib.hid (find_any hA s hs)
  have hltB := h.ltB
  have b0 : (box2 w Bd s).cell? ⟨w.heap.size, 0, none⟩ = some (.pointer (some ⟨Bd, 0, none⟩)) := by simp [box2, go_sem]
  have b1 : (box2 w Bd s).cell? ⟨w.heap.size + 1, 0, none⟩ = some (.string s) := by simp [box2, go_sem]
  cases hv : findV d s.data.toList with
  | none =>
    have he := find_none hv
    have he0 : (findE d s.data.toList != 0) = true := by simpa using he
    have HP : Hid (OpEnd Fp w Bd (remD d s) m (remE d s) (.returned (.int .i64 (findE d s.data.toList))) (box2 w Bd s)) := Lib.hid ⟨by simp [remE, he], by simp only [remD, hv]; exact ⟨⟨_, _, _, hne, hA⟩, hO⟩⟩
    rw [hv] at FD
    unfold ptrV at FD
    generalize findE d s.data.toList = er at *
    unfold box2 at *
    clear h hne hv he hA hO
    go_enter Tryz.func38, Tryz.ntmps38
    go_wp2_with (refine FD.out.mono ?_; rintro e w1 ⟨rfl, rfl⟩)
    go_ret
    exact HP.out
  | some b =>
    obtain ⟨he, hg, hd⟩ := find_some hv
    have DC : Hid (Calls Tryz.prog 43 #[.pointer (some ⟨Bd, 0, none⟩), .func (.func 71) #[] #[.pointer (some ⟨w.heap.size, 0, none⟩), .pointer (some ⟨w.heap.size + 1, 0, none⟩)], .func (.func 48) #[] #[]] (box2 w Bd s) fun e w' => ∃ v : Int, e = .returned (.int .i64 v) ∧ Hid (OpEnd Fp w Bd (remD d s) m (remE d s) (.returned (.int .i64 v)) w')) := by
      refine Lib.hid ?_
      by_cases hl : d.left = 0
      · refine (die_Remove hA hl _ _).mono ?_
        rintro e w' ⟨rfl, rfl⟩
        exact ⟨8, rfl, Lib.hid ⟨by simp [remE, he, hl], by simp only [remD, hv, hl]; exact end_die hA hne hO⟩⟩
      · have C := rem1_any hA.dec hne s hs w.heap.size (w.heap.size + 1) ((decW_cell (a := ⟨w.heap.size, 0, none⟩) (by show w.heap.size ≠ Bd; omega)).trans b0) ((decW_cell (a := ⟨w.heap.size + 1, 0, none⟩) (by show w.heap.size + 1 ≠ Bd; omega)).trans b1)
        refine (do_Remove hA hl _ _ _ C).mono ?_
        rintro e w' ⟨rfl, hP⟩
        exact ⟨0, rfl, Lib.hid ⟨by simp [remE, he, hl], by simp only [remD, hv, hl]; exact (hP.trans hA.decO).trans hO⟩⟩
    rw [hv, he] at FD
    unfold ptrV at FD
    unfold box2 at *
    clear h hne hv he hA hO hg hd
    go_enter Tryz.func38, Tryz.ntmps38
    go_wp2_with fail
    refine FD.out.mono ?_
    rintro e w1 ⟨rfl, rfl⟩
    go_wp2_with fail
    refine DC.out.mono ?_
    rintro e w2 ⟨v, rfl, H⟩
    go_wp2
    go_ret
    exact H.out
def renE (d : DS) (s t : ByteArray) : Int := if findE d s.data.toList ≠ 0 then findE d s.data.toList else if okN t = false then 1 else if d.left = 0 then 8 else 0
def renD (d : DS) (s t : ByteArray) : DS := match findV d s.data.toList with
  | none => d
  | some b => if okN t = false then d else if d.left = 0 then dieD d else renF (decD d) s.data.toList t.data.toList b
set_option maxHeartbeats 4000000 in
set_option maxRecDepth 100000 in
theorem ren_any (h : DV Fp w Bd mn ms vs d m) (hne : mn ≠ ms) (s : ByteArray) (hs : s.size ≤ 9223372036854775807) (t : ByteArray) (ht : t.size ≤ 9223372036854775807) :
    Calls Tryz.prog 22 #[.pointer (some ⟨Bd, 0, none⟩), .string s, .string t] w (OpEnd Fp w Bd (renD d s t) m (renE d s t)) := by
  have hB := h.box3 s t
  have hOB := box3_oth (Fp := Fp) w Bd s t
  have hsz := box3_size w Bd s t
  have FD := Lib.hid (find_any hB s hs)
  have hltB := h.ltB
  have b0 := box3_c0 w Bd s t
  have b1 := box3_c1 w Bd s t
  have b2 := box3_c2 w Bd s t
  cases hv : findV d s.data.toList with
  | none =>
    have he := find_none hv
    have he0 : (findE d s.data.toList != 0) = true := by simpa using he
    have HP : Hid (OpEnd Fp w Bd (renD d s t) m (renE d s t) (.returned (.int .i64 (findE d s.data.toList))) ((box3 w Bd s t).alloc (.cells #[.pointer none] 59))) := Lib.hid ⟨by simp [renE, he], by simp only [renD, hv]; exact ⟨⟨_, _, _, hne, hB.alloc _⟩, hOB.alloc _⟩⟩
    rw [hv] at FD
    unfold ptrV at FD
    generalize findE d s.data.toList = er at *
    unfold box3 at *
    clear h hne hv he hB hOB
    go_enter Tryz.func22, Tryz.ntmps22
    go_wp2_with (refine FD.out.mono ?_; rintro e w1 ⟨rfl, rfl⟩)
    go_ret
    exact HP.out
  | some b =>
    obtain ⟨he, hg, hd⟩ := find_some hv
    have hA := hB.alloc (.cells #[.pointer (some ⟨b, 0, none⟩)] 59)
    have hO := hOB.alloc (.cells #[.pointer (some ⟨b, 0, none⟩)] 59)
    have k3 := alloc_cell (box3 w Bd s t) (.pointer (some ⟨b, 0, none⟩)) 59
    rw [hsz] at k3
    have k0 := alloc_keep b0 (.cells #[.pointer (some ⟨b, 0, none⟩)] 59)
    have k1 := alloc_keep b1 (.cells #[.pointer (some ⟨b, 0, none⟩)] 59)
    have k2 := alloc_keep b2 (.cells #[.pointer (some ⟨b, 0, none⟩)] 59)
    have NC := Lib.hid (name_any t ((box3 w Bd s t).alloc (.cells #[.pointer (some ⟨b, 0, none⟩)] 59)) ht)
    rw [hv, he] at FD
    unfold ptrV at FD
    cases hn : okN t with
    | false =>
      have HP : Hid (OpEnd Fp w Bd (renD d s t) m (renE d s t) (.returned (.int .i64 1)) ((box3 w Bd s t).alloc (.cells #[.pointer (some ⟨b, 0, none⟩)] 59))) := Lib.hid ⟨by simp [renE, he, hn], by simp only [renD, hv, hn]; exact ⟨⟨_, _, _, hne, hA⟩, hO⟩⟩
      rw [hn] at NC
      unfold box3 at *
      clear h hne hv he hB hOB hg hd hA hO
      go_enter Tryz.func22, Tryz.ntmps22
      go_wp2_with fail
      refine FD.out.mono ?_
      rintro e w1 ⟨rfl, rfl⟩
      go_wp2_with fail
      refine NC.out.mono ?_
      rintro e w1 ⟨rfl, rfl⟩
      go_wp2
      go_ret
      exact HP.out
    | true =>
      have DC : Hid (Calls Tryz.prog 43 #[.pointer (some ⟨Bd, 0, none⟩), .func (.func 49) #[] #[.pointer (some ⟨w.heap.size, 0, none⟩), .pointer (some ⟨w.heap.size + 1, 0, none⟩), .pointer (some ⟨w.heap.size + 3, 0, none⟩), .pointer (some ⟨w.heap.size + 2, 0, none⟩)], .func (.func 48) #[] #[]] ((box3 w Bd s t).alloc (.cells #[.pointer (some ⟨b, 0, none⟩)] 59)) fun e w' => ∃ v : Int, e = .returned (.int .i64 v) ∧ Hid (OpEnd Fp w Bd (renD d s t) m (renE d s t) (.returned (.int .i64 v)) w')) := by
        refine Lib.hid ?_
        by_cases hl : d.left = 0
        · refine (die_Rename hA hl _ _ _ _).mono ?_
          rintro e w' ⟨rfl, rfl⟩
          exact ⟨8, rfl, Lib.hid ⟨by simp [renE, he, hl, hn], by simp only [renD, hv, hl, hn]; exact end_die hA hne hO⟩⟩
        · have C := ren1_any hA.dec hne s hs t (by have := (okN_len hn).2; omega) (b := b) (by rw [dec_now]; exact hg) w.heap.size (w.heap.size + 1) (w.heap.size + 3) (w.heap.size + 2) ((decW_cell (a := ⟨w.heap.size, 0, none⟩) (by show w.heap.size ≠ Bd; omega)).trans k0) ((decW_cell (a := ⟨w.heap.size + 1, 0, none⟩) (by show w.heap.size + 1 ≠ Bd; omega)).trans k1)
            ((decW_cell (a := ⟨w.heap.size + 3, 0, none⟩) (by show w.heap.size + 3 ≠ Bd; omega)).trans k3) ((decW_cell (a := ⟨w.heap.size + 2, 0, none⟩) (by show w.heap.size + 2 ≠ Bd; omega)).trans k2)
          refine (do_Rename hA hl _ _ _ _ _ C).mono ?_
          rintro e w' ⟨rfl, hP⟩
          exact ⟨0, rfl, Lib.hid ⟨by simp [renE, he, hl, hn], by simp only [renD, hv, hl, hn]; exact (hP.trans hA.decO).trans hO⟩⟩
      rw [hn] at NC
      unfold box3 at *
      clear h hne hv he hB hOB hg hd hA hO
      go_enter Tryz.func22, Tryz.ntmps22
      go_wp2_with fail
      refine FD.out.mono ?_
      rintro e w1 ⟨rfl, rfl⟩
      go_wp2_with fail
      refine NC.out.mono ?_
      rintro e w1 ⟨rfl, rfl⟩
      go_wp2_with fail
      refine DC.out.mono ?_
      rintro e w2 ⟨v, rfl, H⟩
      go_wp2
      go_ret
      exact H.out
end Go.Proofs.YtjlkdglbnfifeaaGreatDoor
