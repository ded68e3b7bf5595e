/-
  Save on a disk that may die, Drop on one that lives: whose names there are.
-/
import Derived.Test.YtjlkdglbnfifeaaGreatDoorDkL
import Derived.Test.YtjlkdglbnfifeaaGreatDoorDkWD
import Derived.Test.YtjlkdglbnfifeaaGreatDoorDjW
namespace Go.Proofs.YtjlkdglbnfifeaaGreatDoor
open Go.RowKit Go.Maps

section
variable {Fp : Nat → Prop} {w : World} {Bd mn ms : Nat} {vs : Nat → Value × Value} {d : DS} {m : Nat}
set_option maxHeartbeats 1000000 in
theorem arm_any (h : DV Fp w Bd mn ms vs d m) (n : Int) (hn : -9223372036854775808 ≤ n ∧ n ≤ 9223372036854775807) :
    Calls Tryz.prog 9 #[.pointer (some ⟨Bd, 0, none⟩), .int .i64 n] w fun e w' => e = .returned (.tuple #[]) ∧ DV Fp w' Bd mn ms vs (armDS d n) m ∧ Oth Fp w w' := by
  unfold armDS
  have c4 := h.c4
  cases hd : d.dead with
  | true =>
    have HD := Lib.hid h
    rw [hd] at c4
    clear h
    go_enter Tryz.func9, Tryz.ntmps9
    go_wp2
    go_end0
    exact ⟨rfl, by simpa [hd] using HD.out, Oth.refl _ _⟩
  | false =>
    have HD := Lib.hid (h.setB 3 (.int .i64 n) (q := d.quota) (l := n) (x := d.dead) h.quo hn rfl)
    have HO := Lib.hid ((Oth.refl Fp w).setCell (p := ⟨Bd, 3, none⟩) h.fB (.int .i64 n))
    have c3 := h.c3
    have z3 := h.fz 3
    rw [hd] at c4
    clear h
    go_enter Tryz.func9, Tryz.ntmps9
    go_wp2
    go_end0
    exact ⟨rfl, by have := HD.out; rw [hd] at this; simpa using this, HO.out⟩
end
variable {Fp : Nat → Prop} {w : World} {Bd : Nat} {d : DS} {m : Nat}
theorem arm_d (h : Dsk Fp w Bd d m) (n : Int) (hn : -9223372036854775808 ≤ n ∧ n ≤ 9223372036854775807) :
    Calls Tryz.prog 9 #[.pointer (some ⟨Bd, 0, none⟩), .int .i64 n] w fun e w' => e = .returned (.tuple #[]) ∧ OpPost Fp w Bd (armDS d n) m w' := by
  obtain ⟨a, b, c, hne, hD⟩ := h
  exact (arm_any hD n hn).mono (fun e w' ⟨h1, h2, h3⟩ => ⟨h1, ⟨_, _, _, hne, h2⟩, h3⟩)
end Go.Proofs.YtjlkdglbnfifeaaGreatDoor

namespace Go.Proofs.YtjlkdglbnfifeaaGreatDoor
open Go.RowKit Go.Maps

variable {Fp : Nat → Prop} {w : World} {Bd : Nat} {d : DS} {m : Nat}
theorem crash_d (h : Dsk Fp w Bd d m) (hF : Up Fp w) (v : Value) (ks : List Int) (hk : KeepsAt Fp w v ks) (nm : Bool) :
    Calls Tryz.prog 12 #[.pointer (some ⟨Bd, 0, none⟩), v, .bool nm] w fun e w' => e = .returned (.tuple #[]) ∧ OpPost Fp w Bd (crashD d ks nm) m w' := by
  obtain ⟨a, b, c, hne, hD⟩ := h
  cases nm
  · exact crash_false hD hF v ks hk
  · exact crash_true hD hF v ks hk
/-- A crash whose numbers are a list that the text spells out. -/
theorem crash_lit (h : Dsk Fp w Bd d m) (hF : Up Fp w) (k : Int) (hk : k ≤ 9223372036854775807) (nm : Bool) :
    Calls Tryz.prog 12 #[.pointer (some ⟨Bd, 0, none⟩), .slice (some ⟨w.heap.size, 0, none⟩) 1 1, .bool nm] (w.alloc (.cells #[.int .i64 k] 3)) fun e w' => e = .returned (.tuple #[]) ∧ OpPost Fp w Bd (crashD d [k] nm) m w' := by
  obtain ⟨a, b, c, hne, hD⟩ := h
  have hD1 := (hD.nar (w.heap.size + 1)).alloc (.cells #[.int .i64 k] 3)
  have hup : ∀ j, w.heap.size ≤ j → Fp j := hF
  have hK : KeepsAt (nar Fp w.heap.size (w.heap.size + 1)) (w.alloc (.cells #[.int .i64 k] 3)) (.slice (some ⟨w.heap.size, 0, none⟩) 1 1) [k] := by
    refine ⟨_, _, rfl, by simp, by simpa using hk, ?_⟩
    intro i hi
    obtain rfl : i = 0 := by simpa using hi
    refine ⟨_, rfl, ?_, ?_⟩
    · rintro (h | h)
      · exact absurd h.2 (Nat.lt_irrefl _)
      · exact absurd h (Nat.not_succ_le_self _)
    · simp [go_sem, Addr.add]
  refine (crash_d ⟨a, b, c, hne, hD1⟩ (nar_up (by simp)) _ [k] hK nm).mono ?_
  rintro e w' ⟨rfl, ⟨a', b', c', hne', hD'⟩, hO⟩
  refine ⟨rfl, ⟨a', b', c', hne', hD'.wider (fun j _ hj => nar_of hup (Nat.le_succ _) hj)⟩, ?_⟩
  exact ((Oth.refl Fp w).alloc _).trans (hO.wide hup (Nat.le_succ _))
end Go.Proofs.YtjlkdglbnfifeaaGreatDoor

namespace Go.Proofs.YtjlkdglbnfifeaaGreatDoor
open Go.RowKit Go.Maps

def NJT (d : DS) : Prop := ∀ p ∈ d.now, p.1 = nJ ∨ p.1 = nT
theorem njt_die {d : DS} (h : NJT d) : NJT (dieD d) := h
theorem njt_dec {d : DS} (h : NJT d) : NJT (decD d) := by
  intro p hp
  rw [dec_now] at hp
  exact h p hp
theorem njt_rem {d : DS} (h : NJT d) (s : ByteArray) : NJT (remD d s) := by
  unfold remD
  split
  · exact h
  · split
    · exact h
    · intro p hp
      have hp' : p ∈ delD (decD d).now s.data.toList := hp
      rw [dec_now] at hp'
      exact h p (mem_delD.1 hp').1
theorem njt_wr {d : DS} (h : NJT d) (b : Nat) (t : Nm) : NJT (wrD d nT b t) := by
  unfold wrD
  split
  · exact h
  · intro p hp
    rcases mem_putD.1 hp with e | ⟨e, _⟩
    · rw [e]; exact .inr rfl
    · exact h p e
theorem njt_app {d : DS} (h : NJT d) (t : ByteArray) (b : Nat) : NJT (appD d sT t b) := by
  unfold appD
  split
  · exact h
  · split
    · exact h
    · split
      · exact h
      · split
        · exact njt_wr (njt_die h) b _
        · exact njt_wr (njt_dec h) b _
theorem njt_syn {d : DS} (h : NJT d) (s : ByteArray) : NJT (synD d s) := by
  unfold synD
  split
  · exact h
  · split
    · exact h
    · exact njt_dec h
theorem njt_ren {d : DS} (h : NJT d) : NJT (renD d sT sJ) := by
  unfold renD
  split
  · exact h
  · split
    · exact h
    · split
      · exact h
      · intro p hp
        rcases mem_putD.1 hp with e | ⟨e, _⟩
        · rw [e]; exact .inl rfl
        · have := (mem_delD.1 e).1
          rw [dec_now] at this
          exact h p this
theorem njt_sd {d : DS} (h : NJT d) : NJT (sdD d) := by
  unfold sdD
  split
  · exact h
  · split
    · exact h
    · exact njt_dec h
theorem njt_arm {d : DS} (h : NJT d) (n : Int) : NJT (armDS d n) := by
  unfold armDS
  split
  · exact h
  · exact h
theorem njt_js {d : DS} {q : Int} {c : Option Nm} (h : JS d q c) : NJT d := by
  intro p hp
  cases c with
  | none => have := h.now; simp only [] at this; rw [this] at hp; cases hp
  | some F => obtain ⟨b, h1, _⟩ := h.now; rw [h1] at hp; left; simp at hp; rw [hp]
theorem njt_crash {d : DS} (h : NJT d) (ks : List Int) : NJT (crashD d ks true) := by
  intro p hp
  have e : (crashD d ks true).now = d.now := (crTo_now _ _ _).1
  rw [e] at hp
  exact h p hp
def GenPost (Fp : Nat → Prop) (w : World) (Bd : Nat) (m : Nat) (e : Ending) (w' : World) : Prop := ∃ v : Int, e = .returned (.int .i64 v) ∧ ∃ d', NJT d' ∧ OpPost Fp w Bd d' m w'

variable {w : World} {Bd : Nat} {d : DS} {m : Nat}
set_option maxHeartbeats 4000000 in
set_option maxRecDepth 100000 in
/-- Save, whatever the disk dies at: of names there are none but the two. -/
theorem save_gen {w0 : World} {B : Nat} (G : Gl w0) (hw0 : Below w0.heap.size w0 w) (hB : w0.heap.size ≤ B) (h : Dsk (Fb B) w Bd d m) (hF : B ≤ w.heap.size) (hm : 100 ≤ m) (J : NJT d) (t : ByteArray) (ht : t.size ≤ 1000) :
    Calls Tryz.prog 10 #[.pointer (some ⟨Bd, 0, none⟩), .string t] w (GenPost (Fb B) w Bd m) := by
  have GN := Lib.hid (gone_any h sT (by decide))
  have J1 := Lib.hid (njt_rem J sT)
  have hfl := frame_size t.data.toList (by simpa using ht)
  have htl : t.data.toList.length = t.size := by simp
  have hsz : (⟨(frameL t.data.toList).toArray⟩ : ByteArray).size = (frameL t.data.toList).length := rfl
  have FR := Lib.hid (fun w1 (h1 : Below w0.heap.size w0 w1) => frame_any t w1 (by omega) (G.next h1))
  generalize (⟨(frameL t.data.toList).toArray⟩ : ByteArray) = FB at *
  have HW := Lib.hid hw0
  clear h hw0 J G
  generalize remD d sT = D1 at *
  generalize goneE d sT = E1 at *
  by_cases z1 : E1 = 0
  · subst z1
    go_enter Tryz.func10, Tryz.ntmps10
    go_wp2_with fail
    refine GN.out.mono ?_
    rintro e w1 ⟨rfl, d1, o1⟩
    have O1 := Lib.hid o1
    have K1 := Lib.hid d1
    have F1 := Lib.hid (FR.out w1 (HW.out.trans ((o1.fb hF).mono hB)))
    clear GN d1 o1
    go_wp2_with fail
    refine F1.out.mono ?_
    rintro e w2 ⟨rfl, hb2⟩
    have d2 := K1.out.below hb2
    have O2 := Lib.hid (O1.out.trans (Oth.of_below hb2))
    have A2 := Lib.hid (append_d d2 (O2.out.up (Fb_up hF)) sT FB (by decide) (by omega) hm)
    clear F1 hb2 O1 K1 d2
    generalize appE D1 sT FB = E2 at *
    by_cases z2 : E2 = 0
    · subst z2
      go_wp2_with fail
      refine A2.out.mono ?_
      rintro e w3 ⟨rfl, b, _, d3, o3⟩
      have J3 := Lib.hid (njt_app J1.out FB b)
      generalize appD D1 sT FB b = D3 at *
      have O3 := Lib.hid (O2.out.trans o3)
      have S3 := Lib.hid (sync_d d3 sT (by decide))
      have J4 := Lib.hid (njt_syn J3.out sT)
      generalize synD D3 sT = D4 at *
      generalize synE D3 sT = E3 at *
      clear A2 d3 o3 O2 J3
      by_cases z3 : E3 = 0
      · subst z3
        go_wp2_with fail
        refine S3.out.mono ?_
        rintro e w4 ⟨rfl, d4, o4⟩
        have O4 := Lib.hid (O3.out.trans o4)
        have R4 := Lib.hid (ren_d d4 sT sJ (by decide) (by decide))
        have J5 := Lib.hid (njt_ren J4.out)
        generalize renD D4 sT sJ = D5 at *
        generalize renE D4 sT sJ = E4 at *
        clear S3 d4 o4 O3
        by_cases z4 : E4 = 0
        · subst z4
          go_wp2_with fail
          refine R4.out.mono ?_
          rintro e w5 ⟨rfl, d5, o5⟩
          have O5 := Lib.hid (O4.out.trans o5)
          have Y5 := Lib.hid (sdir_d d5 (O5.out.up (Fb_up hF)))
          clear R4 d5 o5 O4
          go_wp2_with fail
          refine Y5.out.mono ?_
          rintro e w6 ⟨rfl, d6, o6⟩
          have P6 : Hid (GenPost (Fb B) w Bd m (.returned (.int .i64 (sdE D5))) w6) := Lib.hid ⟨_, rfl, _, njt_sd J5.out, d6, O5.out.trans o6⟩
          clear Y5 d6 o6 O5
          go_wp2
          go_ret
          exact P6.out
        · have i4 : (E4 != 0) = true := by simpa using z4
          go_wp2_with fail
          refine R4.out.mono ?_
          rintro e w5 ⟨rfl, d5, o5⟩
          have P6 : Hid (GenPost (Fb B) w Bd m (.returned (.int .i64 E4)) w5) := Lib.hid ⟨_, rfl, _, J5.out, d5, O4.out.trans o5⟩
          clear R4 d5 o5 O4
          go_wp2
          go_ret
          exact P6.out
      · have i3 : (E3 != 0) = true := by simpa using z3
        go_wp2_with fail
        refine S3.out.mono ?_
        rintro e w4 ⟨rfl, d4, o4⟩
        have P6 : Hid (GenPost (Fb B) w Bd m (.returned (.int .i64 E3)) w4) := Lib.hid ⟨_, rfl, _, J4.out, d4, O3.out.trans o4⟩
        clear S3 d4 o4 O3
        go_wp2
        go_ret
        exact P6.out
    · have i2 : (E2 != 0) = true := by simpa using z2
      go_wp2_with fail
      refine A2.out.mono ?_
      rintro e w3 ⟨rfl, b, _, d3, o3⟩
      have P6 : Hid (GenPost (Fb B) w Bd m (.returned (.int .i64 E2)) w3) := Lib.hid ⟨_, rfl, _, njt_app J1.out FB b, d3, O2.out.trans o3⟩
      clear A2 d3 o3 O2
      go_wp2
      go_ret
      exact P6.out
  · have i1 : (E1 != 0) = true := by simpa using z1
    go_enter Tryz.func10, Tryz.ntmps10
    go_wp2_with fail
    refine GN.out.mono ?_
    rintro e w1 ⟨rfl, d1, o1⟩
    have P6 : Hid (GenPost (Fb B) w Bd m (.returned (.int .i64 E1)) w1) := Lib.hid ⟨_, rfl, _, J1.out, d1, o1⟩
    clear GN d1 o1
    go_wp2
    go_ret
    exact P6.out

structure Lv (d : DS) : Prop where
  dead : d.dead = false
  left : d.left < 0
theorem lv_crash (d : DS) (ks : List Int) (nm : Bool) : Lv (crashD d ks nm) := ⟨rfl, by show (-1 : Int) < 0; omega⟩
theorem lv_gone {d : DS} (h : Lv d) (hs : Srt d.now) (s : ByteArray) : goneE d s = 0 ∧ Lv (remD d s) ∧ getD (remD d s).now s.data.toList = none ∧ (∀ x, getD d.now x = none → getD (remD d s).now x = none) ∧ (remD d s).safe = d.safe ∧ Srt (remD d s).now := by
  obtain ⟨h1, h2⟩ := live_find (d := d) (n := s.data.toList) h.dead
  have hl : ¬ d.left = 0 := by have := h.left; omega
  cases hg : getD d.now s.data.toList with
  | none =>
    rw [hg] at h1 h2
    have hr : remE d s = 5 := by unfold remE; rw [h2]; rfl
    have hd : remD d s = d := by unfold remD; rw [h1]
    rw [hd]
    exact ⟨by unfold goneE; rw [hr]; rfl, h, hg, fun _ hx => hx, rfl, hs⟩
  | some b =>
    rw [hg] at h1 h2
    have hr : remE d s = 0 := by unfold remE; rw [h2]; simp [hl]
    have hd : remD d s = delF d s.data.toList := by unfold remD; rw [h1]; simp [hl, dec_neg h.left]
    rw [hd]
    refine ⟨by unfold goneE; rw [hr]; simp, ⟨h.dead, h.left⟩, getD_del_same _ _, ?_, rfl, hs.del _⟩
    intro x hx
    cases hq : getD (delF d s.data.toList).now x with
    | none => rfl
    | some c => exact absurd rfl (getD_none hx _ (mem_delD.1 (getD_mem hq)).1)
theorem empty_of {d : DS} (h : NJT d) (hJ : getD d.now nJ = none) (hT : getD d.now nT = none) : d.now = [] := by
  cases hn : d.now with
  | nil => rfl
  | cons p r =>
    exfalso
    have hp : p ∈ d.now := by rw [hn]; simp
    rcases h p hp with e | e
    · exact getD_none hJ p hp e
    · exact getD_none hT p hp e
theorem Dsk.srt {Fp : Nat → Prop} (h : Dsk Fp w Bd d m) : Srt d.now := by
  obtain ⟨_, _, _, _, hD⟩ := h
  exact hD.srtN
def EmPost (Fp : Nat → Prop) (w : World) (Bd : Nat) (m : Nat) (w' : World) : Prop := ∃ d', Lv d' ∧ d'.now = [] ∧ d'.safe = [] ∧ OpPost Fp w Bd d' m w'
end Go.Proofs.YtjlkdglbnfifeaaGreatDoor
