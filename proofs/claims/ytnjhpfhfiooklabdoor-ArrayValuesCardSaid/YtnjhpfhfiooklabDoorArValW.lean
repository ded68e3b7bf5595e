/-
  THE WALK of ArrayValues.
-/
import Derived.Test.YtnjhpfhfiooklabDoorArAw
import Derived.Test.YtnjhpfhfiooklabDoorArGet
namespace Go.Proofs.YtnjhpfhfiooklabDoor
open Go.RowKit Go.Maps

theorem vcut_any (k n : Int) (s : ByteArray) (w : World) (hs : s.size ≤ maxLen) :
    Calls Tryd.prog 4 #[cv k n s] w fun e w' => e = .returned (cv k n (cutB s 100)) ∧ Below w.heap.size w w' := by
  have C0 : Hid (∀ W, Calls Tryd.prog 12 #[.string s, .int .i64 100] W fun e w' => e = .returned (.string (cutB s 100)) ∧ W = w') := Lib.hid fun W => cut_any s 100 W hs (by omega)
  generalize cutB s 100 = t at *
  unfold cv
  go_enter Tryd.func4, Tryd.ntmps4
  go_wp2_with ((with_reducible refine (C0.out _).mono ?_); rintro e w' ⟨rfl, rfl⟩)
  refine bodyPost_ret (v := cv k n t) ?_ rfl ⟨rfl, ((Below.refl _ _).alloc (Nat.le_refl _) _).alloc (by simp) _⟩
  simp [results, Tryd.results4, go_sem, cv]
theorem B3.sets {W : World} {p : Nat} {k n : Int} {s : ByteArray} (h : B3 W p k n s) (k' n' : Int) (s' : ByteArray) : B3 (((W.setCell ⟨p, 0, none⟩ (.int .i64 k')).setCell ⟨p, 1, none⟩ (.int .i64 n')).setCell ⟨p, 2, none⟩ (.string s')) p k' n' s' :=
  ⟨by rw [World.cell?_setCell_other _ _ _ _ (by simp), World.cell?_setCell_other _ _ _ _ (by simp)]; exact World.cell?_setCell_same _ _ _ h.c0,
   by rw [World.cell?_setCell_other _ _ _ _ (by simp)]; exact World.cell?_setCell_same _ _ _ (show (W.setCell ⟨p, 0, none⟩ (.int .i64 k')).cell? ⟨p, 1, none⟩ = some (.int .i64 n) from by rw [World.cell?_setCell_other _ _ _ _ (by simp)]; exact h.c1),
   World.cell?_setCell_same _ _ _ (by rw [World.cell?_setCell_other _ _ _ _ (by simp), World.cell?_setCell_other _ _ _ _ (by simp)]; exact h.c2), by simpa using h.f0, by simpa using h.f1, by simpa using h.f2⟩
theorem wfb {n : Int} (h : (Lit.int .i64 n).wf = true) : -9223372036854775808 ≤ n ∧ n ≤ 9223372036854775807 := by
  simp [Lit.wf, IntKind.min, IntKind.max, IntKind.signed, IntKind.bits] at h
  exact h
theorem pT_len (s : ByteArray) (h : s.size ≤ 1000000) : (pT s).length ≤ 30 + s.size := by
  have := itoa_len (s.size : Int) (by omega) (by omega)
  have e : s.data.toList.length = s.size := by simp
  simp only [pT, List.length_append, List.length_singleton, e]
  omega
theorem enc_len (t : Ce) (h : t.s.size ≤ 1000) (hk : -9223372036854775808 ≤ t.k ∧ t.k ≤ 9223372036854775807) (hn : -9223372036854775808 ≤ t.n ∧ t.n ≤ 9223372036854775807) : (encC t).length ≤ 2000 := by
  have h1 := pI_len t.k hk.1 hk.2
  have h2 := pI_len t.n hn.1 hn.2
  have h3 := pT_len t.s (by omega)
  unfold encC
  rw [List.length_append]
  split
  · omega
  · split
    · omega
    · simp; omega
set_option maxRecDepth 100000 in
set_option maxHeartbeats 4000000 in
theorem values_walk (k n : Int) (s0 : ByteArray) (w : World) (hk : -9223372036854775808 ≤ k ∧ k ≤ 9223372036854775807) (hn : -9223372036854775808 ≤ n ∧ n ≤ 9223372036854775807) (hs : s0.size ≤ maxLen) (htab : Lib.TabBelow Tryd.prog w.heap.size w "internal/strconv.uint64pow10" .u64 Lib.pow10Tab) :
    Calls Tryd.prog 3 #[cv k n s0] w fun e w' => e = .returned (.bool true) ∧ Below w.heap.size w w' := by
  have CT := Lib.hid fun W => vcut_any k n s0 W hs
  have HT := Lib.hid htab
  have hts := cutB_size s0 100
  clear hs htab
  generalize cutB s0 100 = s at *
  obtain ⟨gd, hgd⟩ : ∃ gd : Bool, gd = true ↔ GoodC k n s := by
    by_cases h : GoodC k n s
    · exact ⟨true, by simp [h]⟩
    · exact ⟨false, by simp [h]⟩
  have CG : Hid (∀ W, Calls Tryd.prog 5 #[cv k n s] W fun e w' => e = .returned (.bool gd) ∧ Below W.heap.size W w') := Lib.hid fun W => by
    obtain ⟨g2, h1, h2⟩ := good_any k n s W (by omega)
    have : g2 = gd := by rw [Bool.eq_iff_iff, h1, hgd]
    rwa [this] at h2
  have HGD := Lib.hid hgd
  clear hgd
  unfold cv at *
  go_enter Tryd.func3, Tryd.ntmps3
  go_wp2_with fail
  refine (CT.out _).mono ?_
  rintro e w1 ⟨rfl, hb1⟩
  have hba : Below w.heap.size w (w.alloc (.cells #[.int .i64 k, .int .i64 n, .string s0] 24)) := (Below.refl _ _).alloc (Nat.le_refl _) _
  have hzz : (w.alloc (.cells #[.int .i64 k, .int .i64 n, .string s0] 24)).heap.size = w.heap.size + 1 := by simp
  have X1 := Lib.hid ((B3.new w k n s0 24).below hb1 (by omega))
  have Y1 := Lib.hid (hba.trans (hb1.mono (by omega)))
  have c0 := X1.out.c0
  have c1 := X1.out.c1
  have c2 := X1.out.c2
  have f0 := X1.out.f0
  have f1 := X1.out.f1
  have f2 := X1.out.f2
  clear hba hb1 hzz
  go_wp2_with fail
  have X2 := Lib.hid (X1.out.sets k n s)
  have Y2 : Hid (Below w.heap.size w (((w1.setCell ⟨w.heap.size, 0, none⟩ (.int .i64 k)).setCell ⟨w.heap.size, 1, none⟩ (.int .i64 n)).setCell ⟨w.heap.size, 2, none⟩ (.string s))) := Lib.hid (((Y1.out.setCell (p := ⟨w.heap.size, 0, none⟩) (Nat.le_refl _) _).setCell (p := ⟨w.heap.size, 1, none⟩) (Nat.le_refl _) _).setCell (p := ⟨w.heap.size, 2, none⟩) (Nat.le_refl _) _)
  generalize ((w1.setCell ⟨w.heap.size, 0, none⟩ (.int .i64 k)).setCell ⟨w.heap.size, 1, none⟩ (.int .i64 n)).setCell ⟨w.heap.size, 2, none⟩ (.string s) = w2 at *
  clear c0 c1 c2 f0 f1 f2 X1 Y1
  refine (CG.out _).mono ?_
  rintro e w3 ⟨rfl, hb3⟩
  have X3 := Lib.hid (X2.out.below hb3 X2.out.lt)
  have Y3 := Lib.hid (Y2.out.trans (hb3.mono Y2.out.size))
  clear hb3 X2 Y2 CG CT
  cases gd with
  | false =>
    go_wp2_with fail
    refine (aawake_any _ (fun w' h' => HT.out w' (Y3.out.trans (h'.mono Y3.out.size)))).mono ?_
    rintro e w4 ⟨rfl, hb4⟩
    have hbf := Y3.out.trans (hb4.mono Y3.out.size)
    go_wp2_with fail
    go_ret
    exact ⟨rfl, hbf⟩
  | true =>
    have hgood := Lib.hid (HGD.out.1 rfl)
    have hba : Below w3.heap.size w3 (w3.alloc (.cells #[.slice none 0 0] 30)) := (Below.refl _ _).alloc (Nat.le_refl _) _
    have X4 := Lib.hid (X3.out.below hba X3.out.lt)
    have Y4 := Lib.hid (Y3.out.trans (hba.mono Y3.out.size))
    have hel := enc_len ⟨k, n, s⟩ (by show s.size ≤ 1000; omega) hk hn
    have CP := Lib.hid (aput_any w3.heap.size (w3.heap.size + 1) [] ⟨k, n, s⟩ _ (Wr.new w3) (by simp) (by show s.size ≤ 1000000; omega) hk.1 hk.2 hn.1 hn.2 (fun w' h' => HT.out w' (Y4.out.trans (h'.mono Y3.out.size))))
    have c0 := X4.out.c0
    have c1 := X4.out.c1
    have c2 := X4.out.c2
    have hpl := X3.out.lt
    clear hba
    go_wp2_with fail
    generalize w3.alloc (.cells #[.slice none 0 0] 30) = W4 at *
    refine CP.out.mono ?_
    rintro e w5 ⟨rfl, hw5, hf5⟩
    have X5 := Lib.hid (X4.out.below (hf5.below (by omega)) hpl)
    have Y5 := Lib.hid (Y4.out.trans ((hf5.below (by omega)).mono Y3.out.size))
    rw [List.nil_append] at hw5
    have W5 := Lib.hid hw5
    clear hw5 hf5 CP X4 Y4 c0 c1 c2
    go_wp2_with fail
    refine (wbytes_any _ _ _ _ W5.out).mono ?_
    rintro e w6 ⟨rfl, rfl⟩
    obtain ⟨t, ht⟩ : ∃ t : ByteArray, t = ⟨(encC ⟨k, n, s⟩).toArray⟩ := ⟨_, rfl⟩
    have hat : Hid (At t 0 (encC ⟨k, n, s⟩ ++ [])) := Lib.hid (by rw [ht]; simp [At])
    have htz : t.size = (encC ⟨k, n, s⟩).length := by rw [ht]; rfl
    rw [← ht]
    clear ht W5
    go_wp2_with fail
    refine (read_any _ _).mono ?_
    rintro e w7 ⟨rfl, rfl⟩
    have hr := Rd.new t w5 56
    have hb7 : Below w5.heap.size w5 (w5.alloc (.cells #[.string t, .int .i64 0, .int .i64 0, .int .i64 0] 56)) := (Below.refl _ _).alloc (Nat.le_refl _) _
    have X7 := Lib.hid (X5.out.below hb7 X5.out.lt)
    have Y7 := Lib.hid (Y5.out.trans (hb7.mono Y5.out.size))
    have CR := Lib.hid (aget_any w5.heap.size t 0 [] ⟨k, n, s⟩ _ hr hat.out hgood.out (by show s.size ≤ 4000; omega) (by omega) (by omega))
    have hpl5 := X5.out.lt
    generalize w5.alloc (.cells #[.string t, .int .i64 0, .int .i64 0, .int .i64 0] 56) = W7 at *
    clear hr hb7
    go_wp2_with fail
    refine CR.out.mono ?_
    rintro e w8 ⟨rfl, hr8, hb8⟩
    have X8 := Lib.hid (X7.out.below hb8 hpl5)
    have Y8 := Lib.hid (Y7.out.trans (hb8.mono Y5.out.size))
    have R8 := Lib.hid hr8
    clear hb8 hr8 X7 Y7 CR
    have c0 := X8.out.c0
    have c1 := X8.out.c1
    have c2 := X8.out.c2
    go_wp2_with fail
    clear c0 c1 c2
    have hba : Below w8.heap.size w8 (w8.alloc (.cells #[.int .i64 k, .int .i64 n, .string s] 24)) := (Below.refl _ _).alloc (Nat.le_refl _) _
    have Z9 := Lib.hid (B3.new w8 k n s 24)
    have X9 := Lib.hid (X8.out.below hba X8.out.lt)
    have Y9 := Lib.hid (Y8.out.trans (hba.mono Y8.out.size))
    have R9 := Lib.hid (R8.out.below hba R8.out.lt)
    generalize w8.alloc (.cells #[.int .i64 k, .int .i64 n, .string s] 24) = W9 at *
    clear hba R8 X8 Y8
    refine (aawake_any _ (fun w' h' => HT.out w' (Y9.out.trans (h'.mono Y9.out.size)))).mono ?_
    rintro e w10 ⟨rfl, hb10⟩
    have ZA := Lib.hid (Z9.out.below hb10 Z9.out.lt)
    have XA := Lib.hid (X9.out.below hb10 X9.out.lt)
    have YA := Lib.hid (Y9.out.trans (hb10.mono Y9.out.size))
    have RA := Lib.hid (R9.out.below hb10 R9.out.lt)
    clear hb10 Z9 X9 Y9 R9
    have c0 := XA.out.c0
    have c1 := XA.out.c1
    have c2 := XA.out.c2
    have z0 := ZA.out.c0
    have z1 := ZA.out.c1
    have z2 := ZA.out.c2
    have hdn : doneE t (0 + (encC ⟨k, n, s⟩).length) 0 0 = 0 := by
      unfold doneE
      rw [if_neg (by omega), if_neg (by omega)]
    have hpw : w.heap.size < w5.heap.size := hpl5
    go_wp2_with fail
    refine (done_any _ _ _ _ _ _ RA.out (by omega) (by unfold maxLen; omega)).mono ?_
    rintro e w11 ⟨rfl, hr11, ho11⟩
    rw [hdn]
    have hbf := YA.out.trans (ho11.below (by omega) YA.out.size)
    clear c0 c1 c2 z0 z1 z2
    go_wp2_with fail
    go_ret
    exact ⟨rfl, hbf⟩
end Go.Proofs.YtnjhpfhfiooklabDoor
