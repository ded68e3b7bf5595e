/-
  CONTRACT of layer 8's Get, of what Put wrote.
-/
import Derived.Test.YtjnhaglcigpknaaDoorPkBackM
import Derived.Test.YtjnhaglcigpknaaDoorCellW2
namespace Go.Proofs.YtjnhaglcigpknaaDoor
open Go.RowKit Go.Maps

/-- A box of a value's three cells. -/
structure B3 (W : World) (p : Nat) (k n : Int) (s : ByteArray) : Prop where
  c0 : W.cell? ⟨p, 0, none⟩ = some (.int .i64 k)
  c1 : W.cell? ⟨p, 1, none⟩ = some (.int .i64 n)
  c2 : W.cell? ⟨p, 2, none⟩ = some (.string s)
  f0 : W.frozen? ⟨p, 0, none⟩ = false
  f1 : W.frozen? ⟨p, 1, none⟩ = false
  f2 : W.frozen? ⟨p, 2, none⟩ = false
theorem B3.new (W : World) (k n : Int) (s : ByteArray) (T : TypeId) : B3 (W.alloc (.cells #[.int .i64 k, .int .i64 n, .string s] T)) W.heap.size k n s :=
  ⟨by simp [go_sem], by simp [go_sem], by simp [go_sem], by simp [go_sem], by simp [go_sem], by simp [go_sem]⟩
theorem B3.lt {W : World} {p : Nat} {k n : Int} {s : ByteArray} (h : B3 W p k n s) : p < W.heap.size := World.block_lt_of_cell? _ _ h.c0
theorem B3.below {W W' : World} {p B : Nat} {k n : Int} {s : ByteArray} (h : B3 W p k n s) (hb : Below B W W') (hp : p < B) : B3 W' p k n s :=
  ⟨(hb.cell (p := ⟨p, 0, none⟩) hp).trans h.c0, (hb.cell (p := ⟨p, 1, none⟩) hp).trans h.c1, (hb.cell (p := ⟨p, 2, none⟩) hp).trans h.c2, (hb.frozen (p := ⟨p, 0, none⟩) hp).trans h.f0, (hb.frozen (p := ⟨p, 1, none⟩) hp).trans h.f1, (hb.frozen (p := ⟨p, 2, none⟩) hp).trans h.f2⟩
theorem B3.only {W W' : World} {p b : Nat} {k n : Int} {s : ByteArray} (h : B3 W p k n s) (ho : Only b W W') (hp : p ≠ b) : B3 W' p k n s :=
  ⟨(ho.cell (p := ⟨p, 0, none⟩) h.lt hp).trans h.c0, (ho.cell (p := ⟨p, 1, none⟩) h.lt hp).trans h.c1, (ho.cell (p := ⟨p, 2, none⟩) h.lt hp).trans h.c2, (ho.frozen (p := ⟨p, 0, none⟩) h.lt hp).trans h.f0, (ho.frozen (p := ⟨p, 1, none⟩) h.lt hp).trans h.f1, (ho.frozen (p := ⟨p, 2, none⟩) h.lt hp).trans h.f2⟩
theorem B3.set1 {W : World} {p : Nat} {k n : Int} {s : ByteArray} (h : B3 W p k n s) (m : Int) : B3 (W.setCell ⟨p, 1, none⟩ (.int .i64 m)) p k m s :=
  ⟨by rw [World.cell?_setCell_other _ _ _ _ (by simp)]; exact h.c0, World.cell?_setCell_same _ _ _ h.c1, by rw [World.cell?_setCell_other _ _ _ _ (by simp)]; exact h.c2, by simpa using h.f0, by simpa using h.f1, by simpa using h.f2⟩
theorem B3.set2 {W : World} {p : Nat} {k n : Int} {s : ByteArray} (h : B3 W p k n s) (x : ByteArray) : B3 (W.setCell ⟨p, 2, none⟩ (.string x)) p k n x :=
  ⟨by rw [World.cell?_setCell_other _ _ _ _ (by simp)]; exact h.c0, by rw [World.cell?_setCell_other _ _ _ _ (by simp)]; exact h.c1, World.cell?_setCell_same _ _ _ h.c2, by simpa using h.f0, by simpa using h.f1, by simpa using h.f2⟩
theorem Only.up {b p : Nat} {u v w : World} (h : Only b u v) (hs : Below p v w) (hp : u.heap.size ≤ p) : Only b u w :=
  ⟨hs.os.trans h.os, hs.tape.trans h.tape, hs.output.trans h.output, Nat.le_trans h.size hs.size, fun k hk hn => (hs.block k (by omega)).trans (h.block k hk hn)⟩
def GtPost (d b : Nat) (s : ByteArray) (i : Nat) (t : Ce) (w : World) (e : Ending) (w' : World) : Prop :=
  e = .returned (.tuple #[.agg #[.int .i64 t.k, .int .i64 t.n, .string t.s], .int .i64 0]) ∧ Rd w' b s i d 0 ∧ Only b w w'
/-- The Reader, the result's box and the value's box in one world. -/
structure GtR (w : World) (d b : Nat) (s : ByteArray) (i p : Nat) (k n : Int) (x : ByteArray) (W : World) : Prop where
  rd : Rd W b s i d 0
  z : B3 W w.heap.size 0 0 ⟨#[]⟩
  c : B3 W p k n x
  bel : Only b w W
theorem GtR.below {w : World} {d b : Nat} {s : ByteArray} {i p : Nat} {k n : Int} {x : ByteArray} {W W' : World} (h : GtR w d b s i p k n x W) (hb : Below W.heap.size W W') : GtR w d b s i p k n x W' :=
  ⟨h.rd.below hb h.rd.lt, h.z.below hb h.z.lt, h.c.below hb h.c.lt, h.bel.trans (Only.of_below hb (Nat.le_refl _))⟩
theorem GtR.read {w : World} {d b : Nat} {s : ByteArray} {i j p : Nat} {k n : Int} {x : ByteArray} {W W' : World} (h : GtR w d b s i p k n x W) (hr : RdPost b s j d 0 W W') (hz : w.heap.size ≠ b) (hp : p ≠ b) : GtR w d b s j p k n x W' :=
  ⟨hr.1, h.z.only hr.2 hz, h.c.only hr.2 hp, h.bel.trans hr.2⟩
theorem B3.oset {W : World} {p q j : Nat} {k n : Int} {s : ByteArray} (h : B3 W p k n s) (hq : p ≠ q) (v : Value) : B3 (W.setCell ⟨q, j, none⟩ v) p k n s :=
  ⟨by rw [World.cell?_setCell_other _ _ _ _ (fun e => hq (by injection e with e1; exact e1.symm))]; exact h.c0, by rw [World.cell?_setCell_other _ _ _ _ (fun e => hq (by injection e with e1; exact e1.symm))]; exact h.c1, by rw [World.cell?_setCell_other _ _ _ _ (fun e => hq (by injection e with e1; exact e1.symm))]; exact h.c2, by simpa using h.f0, by simpa using h.f1, by simpa using h.f2⟩
theorem GtR.set1 {w : World} {d b : Nat} {s : ByteArray} {i p : Nat} {k n : Int} {x : ByteArray} {W : World} (h : GtR w d b s i p k n x W) (hb : b < p) (hz : w.heap.size < p) (m : Int) : GtR w d b s i p k m x (W.setCell ⟨p, 1, none⟩ (.int .i64 m)) :=
  have hs := Below.setCell (Below.refl p W) (p := ⟨p, 1, none⟩) (Nat.le_refl _) (.int .i64 m)
  ⟨h.rd.below hs hb, h.z.oset (Nat.ne_of_lt hz) _, h.c.set1 m, h.bel.up hs (Nat.le_of_lt hz)⟩
theorem GtR.set2 {w : World} {d b : Nat} {s : ByteArray} {i p : Nat} {k n : Int} {x : ByteArray} {W : World} (h : GtR w d b s i p k n x W) (hb : b < p) (hz : w.heap.size < p) (y : ByteArray) : GtR w d b s i p k n y (W.setCell ⟨p, 2, none⟩ (.string y)) :=
  have hs := Below.setCell (Below.refl p W) (p := ⟨p, 2, none⟩) (Nat.le_refl _) (.string y)
  ⟨h.rd.below hs hb, h.z.oset (Nat.ne_of_lt hz) _, h.c.set2 y, h.bel.up hs (Nat.le_of_lt hz)⟩
set_option maxRecDepth 100000 in
set_option maxHeartbeats 4000000 in
theorem aget_any {d : Nat} (b : Nat) (s : ByteArray) (i : Nat) (R : List UInt8) (t : Ce) (w : World) (h : Rd w b s i d 0) (hat : At s i (encC t ++ R)) (hg : GoodC t.k t.n t.s) (hz : t.s.size ≤ 4000) (hsz : s.size ≤ 100000) (hi : i ≤ s.size) :
    Calls Tryd.prog 40 #[.pointer (some ⟨b, 0, none⟩)] w (GtPost d b s (i + (encC t).length) t w) := by
  obtain ⟨k, n, x⟩ := t
  simp only at hg hz
  have hgg := Lib.hid hg
  have hm : s.size ≤ maxLen := by unfold maxLen; omega
  have hk : -9223372036854775808 ≤ k ∧ k ≤ 9223372036854775807 := by
    rcases hg with h | h | h | h <;> omega
  have hat' : At s i (pI k ++ ((if k = 1 then pI n else if k = 2 ∨ k = 3 then pT x else []) ++ R)) := by
    have h1 := hat
    unfold encC at h1
    rwa [List.append_assoc] at h1
  have e1 := int_read hat' hk.1 hk.2
  have HAT2 := Lib.hid hat'.tail
  have hle := hat'.len (by simp [pI])
  have C1 : Hid (∀ W, Rd W b s i d 0 → Calls Tryd.prog 49 #[.pointer (some ⟨b, 0, none⟩)] W fun e w' => e = .returned (.int .i64 k) ∧ RdPost b s (i + (pI k).length) d 0 W w') := Lib.hid fun W h => by
    have := rd_int b s i d 0 W h hi hm
    rwa [e1] at this
  have hbw : b < w.heap.size := h.lt
  have hba : Below w.heap.size w (w.alloc (.cells #[.int .i64 0, .int .i64 0, .string ⟨#[]⟩] 46)) := (Below.refl _ _).alloc (Nat.le_refl _) _
  have HR0 := Lib.hid (h.below hba hbw)
  have HB0 := Lib.hid (Only.of_below (b := b) hba (Nat.le_refl _))
  have HZ0 := Lib.hid (B3.new w 0 0 ⟨#[]⟩ 46)
  have G := Lib.hid (good_any k n x)
  have hzx : x.size ≤ 1000000 := by omega
  have hzz : (w.alloc (.cells #[.int .i64 0, .int .i64 0, .string ⟨#[]⟩] 46)).heap.size = w.heap.size + 1 := by simp
  clear h hat hat' hba e1
  go_enter Tryd.func40, Tryd.ntmps40
  go_wp2_with fail
  generalize w.alloc (.cells #[.int .i64 0, .int .i64 0, .string ⟨#[]⟩] 46) = W0 at *
  refine (C1.out _ HR0.out).mono ?_
  rintro e w1 ⟨rfl, hr1⟩
  have hw1 : w.heap.size < w1.heap.size := by have := hr1.2.size; omega
  have hbb := Below.alloc (Below.refl w1.heap.size w1) (Nat.le_refl _) (.cells #[.int .i64 k, .int .i64 0, .string ⟨#[]⟩] 46)
  have GR : Hid (GtR w d b s (i + (pI k).length) w1.heap.size k 0 ⟨#[]⟩ (w1.alloc (.cells #[.int .i64 k, .int .i64 0, .string ⟨#[]⟩] 46))) := Lib.hid ⟨hr1.1.below hbb hr1.1.lt, (HZ0.out.only hr1.2 (by omega)).below hbb hw1, B3.new _ _ _ _ _, (HB0.out.trans hr1.2).trans (Only.of_below hbb (Nat.le_refl _))⟩
  have q0 := GR.out.c.c0
  have q1 := GR.out.c.c1
  have q2 := GR.out.c.c2
  have qf1 := GR.out.c.f1
  have qf2 := GR.out.c.f2
  clear hr1 hbb HR0 HB0 HZ0 C1 hgg
  rcases hg with ⟨rfl, rfl, hx⟩ | ⟨rfl, hn, hx⟩ | ⟨rfl, rfl⟩ | ⟨rfl, hl⟩
  · have hxx := nil_ba x hx
    subst hxx
    go_wp2_with fail
    generalize w1.alloc (.cells #[.int .i64 0, .int .i64 0, .string ⟨#[]⟩] 46) = W1 at *
    refine (err_any _ _ _ _ _ _ GR.out.rd).mono ?_
    rintro e w4 ⟨rfl, rfl⟩
    go_wp2_with fail
    obtain ⟨gd, hgd, hG⟩ := G.out (by assumption) hzx
    obtain rfl : gd = true := hgd.2 (.inl ⟨rfl, rfl, rfl⟩)
    unfold cv at hG
    clear hgd G
    refine hG.mono ?_
    rintro e w5 ⟨rfl, hb5⟩
    have GR5 := Lib.hid (GR.out.below hb5)
    clear hb5 hG GR
    have z0 := GR5.out.z.c0
    have z1 := GR5.out.z.c1
    have z2 := GR5.out.z.c2
    have zf0 := GR5.out.z.f0
    have zf1 := GR5.out.z.f1
    have zf2 := GR5.out.z.f2
    have y0 := GR5.out.c.c0
    have y1 := GR5.out.c.c1
    have y2 := GR5.out.c.c2
    go_wp2_with fail
    have hs3 : Below w.heap.size w5 (((w5.setCell ⟨w.heap.size, 0, none⟩ (.int .i64 0)).setCell ⟨w.heap.size, 1, none⟩ (.int .i64 0)).setCell ⟨w.heap.size, 2, none⟩ (.string ⟨#[]⟩)) := (((Below.refl w.heap.size w5).setCell (p := ⟨w.heap.size, 0, none⟩) (Nat.le_refl _) _).setCell (p := ⟨w.heap.size, 1, none⟩) (Nat.le_refl _) _).setCell (p := ⟨w.heap.size, 2, none⟩) (Nat.le_refl _) _
    have hrf := GR5.out.rd.below hs3 hbw
    have hbf := GR5.out.bel.up hs3 (Nat.le_refl _)
    have hlen : i + (encC ⟨0, 0, ⟨#[]⟩⟩).length = i + (pI 0).length := by
      rw [show encC ⟨0, 0, ⟨#[]⟩⟩ = pI 0 ++ [] from rfl]
      simp; try omega
    rw [hlen]
    refine bodyPost_ret (v := .tuple #[.agg #[.int .i64 0, .int .i64 0, .string ⟨#[]⟩], .int .i64 0]) ?_ rfl ⟨rfl, hrf, hbf⟩
    simp [results, Tryd.results40, go_sem, z0, z1, z2]
  · have hxx := nil_ba x hx
    subst hxx
    have hn' := hn
    unfold OkN at hn'
    have e2 := int_read (n := n) (R := R) (by simpa using HAT2.out) (by omega) (by omega)
    have hfin := At.len (l := pI n) (m := R) (by simpa using HAT2.out) (by simp [pI])
    go_wp2_with fail
    generalize w1.alloc (.cells #[.int .i64 1, .int .i64 0, .string ⟨#[]⟩] 46) = W1 at *
    have C2 := Lib.hid (rd_int b s (i + (pI 1).length) d 0 W1 GR.out.rd (by omega) hm)
    rw [e2] at C2
    refine C2.out.mono ?_
    rintro e w2 ⟨rfl, hr2⟩
    have GR := Lib.hid (GR.out.read hr2 (by omega) (by omega))
    have q0 := GR.out.c.c0
    have q1 := GR.out.c.c1
    have q2 := GR.out.c.c2
    have qf1 := GR.out.c.f1
    clear hr2 C2
    go_wp2_with fail
    have GR := Lib.hid (GR.out.set1 (by omega) (by omega) n)
    have q0 := GR.out.c.c0
    have q1 := GR.out.c.c1
    have q2 := GR.out.c.c2
    generalize w2.setCell ⟨w1.heap.size, 1, none⟩ (.int .i64 n) = w3 at *
    refine (err_any _ _ _ _ _ _ GR.out.rd).mono ?_
    rintro e w4 ⟨rfl, rfl⟩
    go_wp2_with fail
    obtain ⟨gd, hgd, hG⟩ := G.out (by assumption) hzx
    obtain rfl : gd = true := hgd.2 (.inr (.inl ⟨rfl, hn, rfl⟩))
    unfold cv at hG
    clear hgd G
    refine hG.mono ?_
    rintro e w5 ⟨rfl, hb5⟩
    have GR5 := Lib.hid (GR.out.below hb5)
    clear hb5 hG GR
    have z0 := GR5.out.z.c0
    have z1 := GR5.out.z.c1
    have z2 := GR5.out.z.c2
    have zf0 := GR5.out.z.f0
    have zf1 := GR5.out.z.f1
    have zf2 := GR5.out.z.f2
    have y0 := GR5.out.c.c0
    have y1 := GR5.out.c.c1
    have y2 := GR5.out.c.c2
    go_wp2_with fail
    have hs3 : Below w.heap.size w5 (((w5.setCell ⟨w.heap.size, 0, none⟩ (.int .i64 1)).setCell ⟨w.heap.size, 1, none⟩ (.int .i64 n)).setCell ⟨w.heap.size, 2, none⟩ (.string ⟨#[]⟩)) := (((Below.refl w.heap.size w5).setCell (p := ⟨w.heap.size, 0, none⟩) (Nat.le_refl _) _).setCell (p := ⟨w.heap.size, 1, none⟩) (Nat.le_refl _) _).setCell (p := ⟨w.heap.size, 2, none⟩) (Nat.le_refl _) _
    have hrf := GR5.out.rd.below hs3 hbw
    have hbf := GR5.out.bel.up hs3 (Nat.le_refl _)
    have hlen : i + (encC ⟨1, n, ⟨#[]⟩⟩).length = i + (pI 1).length + (pI n).length := by
      rw [show encC ⟨1, n, ⟨#[]⟩⟩ = pI 1 ++ pI n from rfl]
      simp; try omega
    rw [hlen]
    refine bodyPost_ret (v := .tuple #[.agg #[.int .i64 1, .int .i64 n, .string ⟨#[]⟩], .int .i64 0]) ?_ rfl ⟨rfl, hrf, hbf⟩
    simp [results, Tryd.results40, go_sem, z0, z1, z2]
  · have e2 := text_read (t := x) (R := R) (most := 4000) (by simpa using HAT2.out) (by omega) (by omega)
    have hfin := At.len (l := pT x) (m := R) (by simpa using HAT2.out) (by simp [pT])
    go_wp2_with fail
    generalize w1.alloc (.cells #[.int .i64 2, .int .i64 0, .string ⟨#[]⟩] 46) = W1 at *
    have C2 := Lib.hid (Text_any b s (i + (pI 2).length) d 0 4000 W1 GR.out.rd (by omega) (by omega))
    rw [e2] at C2
    refine C2.out.mono ?_
    rintro e w2 ⟨rfl, hr2⟩
    have GR := Lib.hid (GR.out.read hr2 (by omega) (by omega))
    have q0 := GR.out.c.c0
    have q1 := GR.out.c.c1
    have q2 := GR.out.c.c2
    have qf2 := GR.out.c.f2
    clear hr2 C2
    go_wp2_with fail
    have GR := Lib.hid (GR.out.set2 (by omega) (by omega) x)
    have q0 := GR.out.c.c0
    have q1 := GR.out.c.c1
    have q2 := GR.out.c.c2
    have qf1 := GR.out.c.f1
    generalize w2.setCell ⟨w1.heap.size, 2, none⟩ (.string x) = w3 at *
    refine (err_any _ _ _ _ _ _ GR.out.rd).mono ?_
    rintro e w4 ⟨rfl, rfl⟩
    go_wp2_with fail
    obtain ⟨gd, hgd, hG⟩ := G.out (by assumption) hzx
    obtain rfl : gd = true := hgd.2 (.inr (.inr (.inl ⟨rfl, rfl⟩)))
    unfold cv at hG
    clear hgd G
    refine hG.mono ?_
    rintro e w5 ⟨rfl, hb5⟩
    have GR5 := Lib.hid (GR.out.below hb5)
    clear hb5 hG GR
    have z0 := GR5.out.z.c0
    have z1 := GR5.out.z.c1
    have z2 := GR5.out.z.c2
    have zf0 := GR5.out.z.f0
    have zf1 := GR5.out.z.f1
    have zf2 := GR5.out.z.f2
    have y0 := GR5.out.c.c0
    have y1 := GR5.out.c.c1
    have y2 := GR5.out.c.c2
    go_wp2_with fail
    have hs3 : Below w.heap.size w5 (((w5.setCell ⟨w.heap.size, 0, none⟩ (.int .i64 2)).setCell ⟨w.heap.size, 1, none⟩ (.int .i64 0)).setCell ⟨w.heap.size, 2, none⟩ (.string x)) := (((Below.refl w.heap.size w5).setCell (p := ⟨w.heap.size, 0, none⟩) (Nat.le_refl _) _).setCell (p := ⟨w.heap.size, 1, none⟩) (Nat.le_refl _) _).setCell (p := ⟨w.heap.size, 2, none⟩) (Nat.le_refl _) _
    have hrf := GR5.out.rd.below hs3 hbw
    have hbf := GR5.out.bel.up hs3 (Nat.le_refl _)
    have hlen : i + (encC ⟨2, 0, x⟩).length = i + (pI 2).length + (pT x).length := by
      rw [show encC ⟨2, 0, x⟩ = pI 2 ++ pT x from rfl]
      simp; try omega
    rw [hlen]
    refine bodyPost_ret (v := .tuple #[.agg #[.int .i64 2, .int .i64 0, .string x], .int .i64 0]) ?_ rfl ⟨rfl, hrf, hbf⟩
    simp [results, Tryd.results40, go_sem, z0, z1, z2]
  · have e2 := text_read (t := x) (R := R) (most := 4000) (by simpa using HAT2.out) (by omega) (by omega)
    have hfin := At.len (l := pT x) (m := R) (by simpa using HAT2.out) (by simp [pT])
    go_wp2_with fail
    generalize w1.alloc (.cells #[.int .i64 3, .int .i64 0, .string ⟨#[]⟩] 46) = W1 at *
    have C2 := Lib.hid (Text_any b s (i + (pI 3).length) d 0 4000 W1 GR.out.rd (by omega) (by omega))
    rw [e2] at C2
    refine C2.out.mono ?_
    rintro e w2 ⟨rfl, hr2⟩
    have GR := Lib.hid (GR.out.read hr2 (by omega) (by omega))
    have q0 := GR.out.c.c0
    have q1 := GR.out.c.c1
    have q2 := GR.out.c.c2
    have qf2 := GR.out.c.f2
    clear hr2 C2
    go_wp2_with fail
    have GR := Lib.hid (GR.out.set2 (by omega) (by omega) x)
    have q0 := GR.out.c.c0
    have q1 := GR.out.c.c1
    have q2 := GR.out.c.c2
    have qf1 := GR.out.c.f1
    generalize w2.setCell ⟨w1.heap.size, 2, none⟩ (.string x) = w3 at *
    refine (looks_any x _ hzx).mono ?_
    rintro e w6 ⟨rfl, hb6⟩
    rw [hl]
    have GR := Lib.hid (GR.out.below hb6)
    have q0 := GR.out.c.c0
    have q1 := GR.out.c.c1
    have q2 := GR.out.c.c2
    have qf1 := GR.out.c.f1
    clear hb6
    go_wp2_with fail
    have GR := Lib.hid (GR.out.set1 (by omega) (by omega) n)
    have q0 := GR.out.c.c0
    have q1 := GR.out.c.c1
    have q2 := GR.out.c.c2
    generalize w6.setCell ⟨w1.heap.size, 1, none⟩ (.int .i64 n) = w7 at *
    refine (err_any _ _ _ _ _ _ GR.out.rd).mono ?_
    rintro e w4 ⟨rfl, rfl⟩
    go_wp2_with fail
    obtain ⟨gd, hgd, hG⟩ := G.out (by assumption) hzx
    obtain rfl : gd = true := hgd.2 (.inr (.inr (.inr ⟨rfl, hl⟩)))
    unfold cv at hG
    clear hgd G
    refine hG.mono ?_
    rintro e w5 ⟨rfl, hb5⟩
    have GR5 := Lib.hid (GR.out.below hb5)
    clear hb5 hG GR
    have z0 := GR5.out.z.c0
    have z1 := GR5.out.z.c1
    have z2 := GR5.out.z.c2
    have zf0 := GR5.out.z.f0
    have zf1 := GR5.out.z.f1
    have zf2 := GR5.out.z.f2
    have y0 := GR5.out.c.c0
    have y1 := GR5.out.c.c1
    have y2 := GR5.out.c.c2
    go_wp2_with fail
    have hs3 : Below w.heap.size w5 (((w5.setCell ⟨w.heap.size, 0, none⟩ (.int .i64 3)).setCell ⟨w.heap.size, 1, none⟩ (.int .i64 n)).setCell ⟨w.heap.size, 2, none⟩ (.string x)) := (((Below.refl w.heap.size w5).setCell (p := ⟨w.heap.size, 0, none⟩) (Nat.le_refl _) _).setCell (p := ⟨w.heap.size, 1, none⟩) (Nat.le_refl _) _).setCell (p := ⟨w.heap.size, 2, none⟩) (Nat.le_refl _) _
    have hrf := GR5.out.rd.below hs3 hbw
    have hbf := GR5.out.bel.up hs3 (Nat.le_refl _)
    have hlen : i + (encC ⟨3, n, x⟩).length = i + (pI 3).length + (pT x).length := by
      rw [show encC ⟨3, n, x⟩ = pI 3 ++ pT x from rfl]
      simp; try omega
    rw [hlen]
    refine bodyPost_ret (v := .tuple #[.agg #[.int .i64 3, .int .i64 n, .string x], .int .i64 0]) ?_ rfl ⟨rfl, hrf, hbf⟩
    simp [results, Tryd.results40, go_sem, z0, z1, z2]
end Go.Proofs.YtjnhaglcigpknaaDoor
