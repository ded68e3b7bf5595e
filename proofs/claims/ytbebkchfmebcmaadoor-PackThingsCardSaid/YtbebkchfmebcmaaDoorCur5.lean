/-
  CONTRACT of the reference's Skip (scriberef01), beside the program's: both fall, or both come to the same place.
-/
import Derived.Test.YtbebkchfmebcmaaDoorCur4
namespace Go.Proofs.YtbebkchfmebcmaaDoor
open Go.RowKit

theorem bcellC {W w1 : World} (hb : Below W.heap.size W w1) : (∀ b o, b < W.heap.size → w1.cell? ⟨b, o, none⟩ = W.cell? ⟨b, o, none⟩) ∧ (∀ b o, b < W.heap.size → w1.frozen? ⟨b, o, none⟩ = W.frozen? ⟨b, o, none⟩) :=
  ⟨fun b o h => hb.cell (p := ⟨b, o, none⟩) h, fun b o h => hb.frozen (p := ⟨b, o, none⟩) h⟩
theorem below_two (w : World) (a b : Array Value) (t : TypeId) {w' : World} (h : Below ((w.alloc (.cells a t)).alloc (.cells b t)).heap.size ((w.alloc (.cells a t)).alloc (.cells b t)) w') : Below w.heap.size w w' := (two_cells w a b t).trans (h.mono (by simp; omega))
def Sm3 (p q k : Nat) (r : RS) : Prop := (k = 0 ∧ r = (p, q, 0)) ∨ (k ≠ 0 ∧ r.2.2 ≠ 0)
theorem signA_le' (s : ByteArray) (i k c : Nat) (hi : i ≤ s.size) : signA s i k c ≤ s.size := signA_le s i k c hi
theorem rn_le (s : ByteArray) (i : Nat) (hi : i ≤ s.size) : (rnP s i).1 ≤ s.size := by
  unfold rnP
  split
  · rename_i h
    exact rd_le _ _ _ (stB_lt h)
  · exact rd_le _ _ _ hi
theorem ri_le (s : ByteArray) (i : Nat) (hi : i ≤ s.size) : (riP s i).1 ≤ s.size := by
  unfold riP
  split
  · exact hi
  · rename_i h
    have h3 := sign_ok (show signE s i 0 105 = 0 by omega)
    exact signA_le _ _ _ _ (rn_le _ _ (stB_lt h3.2.1))
theorem rt_le (s : ByteArray) (i : Nat) (hi : i ≤ s.size) : (rtP s i).1 ≤ s.size := by
  have hA := signA_le s (rd s i 0).1 (rt1 s i) 58 (rd_le s i 0 hi)
  unfold rtP
  split
  · exact hA
  · split
    · exact hA
    · rename_i h
      simp only; omega
theorem sm3_of {p e q k j : Nat} (h : Sm2 p e q k) : Sm3 p j e (q, j, k) := by
  rcases h with ⟨rfl, rfl, rfl⟩ | ⟨h1, h2⟩
  · exact .inl ⟨rfl, rfl⟩
  · exact .inr ⟨h1, h2⟩
/-- A Cursor in memory. -/
structure Cu (w : World) (b : Nat) (s : ByteArray) (p q k : Nat) : Prop where
  c0 : w.cell? ⟨b, 0, none⟩ = some (.string s)
  c1 : w.cell? ⟨b, 1, none⟩ = some (.int .i64 p)
  c2 : w.cell? ⟨b, 2, none⟩ = some (.int .i64 q)
  c3 : w.cell? ⟨b, 3, none⟩ = some (.int .i64 k)
  f0 : w.frozen? ⟨b, 0, none⟩ = false
  f1 : w.frozen? ⟨b, 1, none⟩ = false
  f2 : w.frozen? ⟨b, 2, none⟩ = false
  f3 : w.frozen? ⟨b, 3, none⟩ = false
theorem Cu.below {w w' : World} {b p q k : Nat} {s : ByteArray} (h : Cu w b s p q k) {B : Nat} (hb : Below B w w') (hlt : b < B) : Cu w' b s p q k :=
  ⟨(hb.cell (p := ⟨b, 0, none⟩) hlt).trans h.c0, (hb.cell (p := ⟨b, 1, none⟩) hlt).trans h.c1, (hb.cell (p := ⟨b, 2, none⟩) hlt).trans h.c2, (hb.cell (p := ⟨b, 3, none⟩) hlt).trans h.c3,
    (hb.frozen (p := ⟨b, 0, none⟩) hlt).trans h.f0, (hb.frozen (p := ⟨b, 1, none⟩) hlt).trans h.f1, (hb.frozen (p := ⟨b, 2, none⟩) hlt).trans h.f2, (hb.frozen (p := ⟨b, 3, none⟩) hlt).trans h.f3⟩
theorem Cu.lt {w : World} {b p q k : Nat} {s : ByteArray} (h : Cu w b s p q k) : b < w.heap.size := World.block_lt_of_cell? _ _ h.c0
/-- A Cursor is laid whole into a block that holds one. -/
def put4 (w : World) (b : Nat) (s : ByteArray) (p q k : Nat) : World := (((w.setCell ⟨b, 0, none⟩ (.string s)).setCell ⟨b, 1, none⟩ (.int .i64 p)).setCell ⟨b, 2, none⟩ (.int .i64 q)).setCell ⟨b, 3, none⟩ (.int .i64 k)
theorem size_put4 (w : World) (b : Nat) (s : ByteArray) (p q k : Nat) : (put4 w b s p q k).heap.size = w.heap.size := by unfold put4; simp
theorem Cu.put {w : World} {b p q k p' q' k' : Nat} {s s' : ByteArray} (h : Cu w b s p q k) : Cu (put4 w b s' p' q' k') b s' p' q' k' := by
  obtain ⟨c0, c1, c2, c3, f0, f1, f2, f3⟩ := h
  unfold put4
  exact ⟨by simp [go_sem, c0], by simp [go_sem, c1], by simp [go_sem, c2], by simp [go_sem, c3], by simp [go_sem, f0], by simp [go_sem, f1], by simp [go_sem, f2], by simp [go_sem, f3]⟩
theorem Cu.put_other {w : World} {b c p q k p' q' k' : Nat} {s s' : ByteArray} (h : Cu w b s p q k) (hne : b ≠ c) : Cu (put4 w c s' p' q' k') b s p q k := by
  obtain ⟨c0, c1, c2, c3, f0, f1, f2, f3⟩ := h
  have _hne' := Ne.symm hne
  unfold put4
  exact ⟨by simp [go_sem, c0], by simp [go_sem, c1], by simp [go_sem, c2], by simp [go_sem, c3], by simp [go_sem, f0], by simp [go_sem, f1], by simp [go_sem, f2], by simp [go_sem, f3]⟩
theorem below_put4 {u w : World} {B b p q k : Nat} {s : ByteArray} (h : Below B u w) (hb : B ≤ b) : Below B u (put4 w b s p q k) := (((h.setCell hb _).setCell hb _).setCell hb _).setCell hb _
theorem cu_new (w : World) (s : ByteArray) (p q k : Nat) : Cu (w.alloc (.cells #[.string s, .int .i64 p, .int .i64 q, .int .i64 k] 25)) w.heap.size s p q k :=
  ⟨by simp [go_sem], by simp [go_sem], by simp [go_sem], by simp [go_sem], by simp [go_sem], by simp [go_sem], by simp [go_sem], by simp [go_sem]⟩
theorem two_cu (w : World) (s : ByteArray) (i j k : Nat) : Cu ((w.alloc (.cells #[.string s, .int .i64 i, .int .i64 j, .int .i64 k] 25)).alloc (.cells #[.string ⟨#[]⟩, .int .i64 0, .int .i64 0, .int .i64 0] 25)) w.heap.size s i j k ∧
    Cu ((w.alloc (.cells #[.string s, .int .i64 i, .int .i64 j, .int .i64 k] 25)).alloc (.cells #[.string ⟨#[]⟩, .int .i64 0, .int .i64 0, .int .i64 0] 25)) (w.heap.size + 1) ⟨#[]⟩ 0 0 0 := by
  constructor
  · exact ⟨by simp [go_sem], by simp [go_sem], by simp [go_sem], by simp [go_sem], by simp [go_sem], by simp [go_sem], by simp [go_sem], by simp [go_sem]⟩
  · exact ⟨by simp [go_sem], by simp [go_sem], by simp [go_sem], by simp [go_sem], by simp [go_sem], by simp [go_sem], by simp [go_sem], by simp [go_sem]⟩
set_option maxHeartbeats 8000000 in
theorem cskip_all (s : ByteArray) (hz : s.size ≤ 100000) : ∀ f g, g ≤ f → ∀ (i j : Nat) (w : World), i < s.size → j ≤ 60 → needS s i 0 ≤ g →
    Calls Tryd.prog 8 #[cv s i j 0] w fun e w' => (∃ p q k, e = .returned (cv s p q k) ∧ p ≤ s.size ∧ q ≤ 60 ∧ Sm3 p q k (skP s g false (i, j, 0))) ∧ Below w.heap.size w w' := by
  intro f
  induction f with
  | zero =>
    intro g hg i j w hi hj hn
    unfold needS at hn
    split at hn <;> omega
  | succ f ih =>
    intro g0 hg i j w hi hj hn
    obtain ⟨g, rfl⟩ : ∃ g, g0 = g + 1 := ⟨g0 - 1, by unfold needS at hn; split at hn <;> omega⟩
    have IH := Lib.hid ih
    clear ih
    have hi1 : (i : Int) < (s.size : Int) := by omega
    have hi2 : decide ((s.size : Int) ≤ (i : Int)) = false := decide_eq_false (by omega)
    by_cases ha : stB s i 105 = true
    · have e0 : skP s (g + 1) false (i, j, 0) = ((intP s i 0).1, j, (intP s i 0).2.1) := by rw [skP, if_pos ha]
      rw [e0]
      have hx : s[i].toNat = 105 := by unfold stB at ha; rw [dif_pos hi] at ha; simpa using ha
      have HS := Lib.hid (sm3_of (j := j) (ri_sm s i (by omega)))
      have HL := Lib.hid (ri_le s i (by omega))
      have D1 := Lib.hid (fun w => crint_any s i j w (by omega) hz)
      have HXX := Lib.hid hx
      clear hx e0 ha hn
      have hx : (s[i].toNat : Int) = 105 := by have := HXX.out; omega
      generalize riP s i = r at *
      obtain ⟨p, e⟩ := r
      simp only at HS HL D1
      unfold cv at D1 ⊢
      go_enter Tryd.func8, Tryd.ntmps8
      go_wp2_with fail
      refine (D1.out _).mono ?_
      rintro e1 w1 ⟨⟨v, rfl⟩, hb1⟩
      have hC := (two_cu w s i j 0).1.below hb1 (by simp; omega)
      have hR := (two_cu w s i j 0).2.below hb1 (by simp)
      have HB := Lib.hid (below_two w _ _ _ hb1)
      have hlt1 : w.heap.size + 1 < w1.heap.size := hR.lt
      have hne : w1.heap.size ≠ w.heap.size + 1 := by omega
      have hne2 : w1.heap.size ≠ w.heap.size := by omega
      clear hb1 D1
      obtain ⟨c0, c1, c2, c3, f0, f1, f2, f3⟩ := hC
      have hRp := (Cu.put (s' := s) (p' := p) (q' := j) (k' := e) hR).below ((Below.refl _ _).alloc (Nat.le_refl _) (.cells #[.string s, .int .i64 p, .int .i64 j, .int .i64 e] 25)) (by rw [size_put4]; omega)
      obtain ⟨y0, y1, y2, y3, _, _, _, _⟩ := hRp
      unfold put4 at y0 y1 y2 y3
      obtain ⟨r0, r1, r2, r3, g0, g1, g2, g3⟩ := hR
      go_wp2_with fail
      refine bodyPost_ret (v := cv s p j e) ?_ rfl ⟨⟨p, j, e, rfl, HL.out, hj, HS.out⟩, ?_⟩
      · simp [results, Tryd.results8, go_sem, cv, y0, y1, y2, y3]
      · exact (below_put4 (s := s) (p := p) (q := j) (k := e) HB.out (by omega)).alloc (by rw [size_put4]; omega) _
    · have ha2 : ¬ stB s i 105 = true := ha
      have hx1 : ((s[i].toNat : Int) == 105) = false := by unfold stB at ha; rw [dif_pos hi] at ha; rw [beq_eq_false_iff_ne]; intro h; exact ha (by simp; omega)
      have hx2 : decide ((s[i].toNat : Int) = 105) = false := by simpa using hx1
      by_cases hb : stB s i 40 = true
      · skip
        have hx : s[i].toNat = 40 := by unfold stB at hb; rw [dif_pos hi] at hb; simpa using hb
        obtain ⟨T, hT⟩ : ∃ T, T = skP s (g + 1) false (i, j, 0) := ⟨_, rfl⟩
        rw [← hT]
        rw [skP, if_neg ha, if_pos hb] at hT
        have D1 := Lib.hid (fun w => copen_any s i j 0 w (by omega) hj hz)
        have hA := opA_le s i j 0 (by omega)
        have hJ := opJ_le s i j 0 hj
        have hge : i ≤ opA s i j 0 := signA_ge _ _ _ _
        have hneed : needL s (opA s i j 0) (opE s i j 0) ≤ g := by
          unfold needL needS at *
          by_cases hE : opE s i j 0 ≠ 0
          · rw [if_pos hE]; rw [if_neg (by omega)] at hn; omega
          · rw [if_neg hE]
            have h3 := sign_ok (show signE s i (opK j 0) 40 = 0 from by unfold opE at hE; omega)
            have h4 : opA s i j 0 = i + 1 := h3.2.2
            rw [if_neg (by omega)] at hn
            omega
        have HT := Lib.hid hT
        have HXX := Lib.hid hx
        clear hx hT hn ha ha2 hb
        have hx : (s[i].toNat : Int) = 40 := by have := HXX.out; omega
        have hS0 : Hid (∃ r : RS, Sm3 (opA s i j 0) (opJ s i j 0) (opE s i j 0) r ∧ r.1 ≤ s.size ∧ r.2.1 ≤ 60 ∧ needL s r.1 r.2.2 ≤ g ∧ T = skP s g true r) := Lib.hid (by
          refine ⟨(opA s i j 0, opJ s i j 0, opE s i j 0), ?_, hA, hJ, hneed, HT.out⟩
          by_cases hE : opE s i j 0 = 0
          · exact .inl ⟨hE, by rw [hE]⟩
          · exact .inr ⟨hE, hE⟩)
        clear HT hneed
        generalize opA s i j 0 = i1 at *
        generalize opJ s i j 0 = j1 at *
        generalize opE s i j 0 = k1 at *
        unfold cv at D1 ⊢
        go_enter Tryd.func8, Tryd.ntmps8
        go_wp2_with fail
        refine (D1.out _).mono ?_
        rintro e1 w1 ⟨rfl, a1, a2, a3, a4, rfl⟩
        have hb1 := four_below ((w.alloc (.cells #[.string s, .int .i64 i, .int .i64 j, .int .i64 0] 25)).alloc (.cells #[.string ⟨#[]⟩, .int .i64 0, .int .i64 0, .int .i64 0] 25)) a1 a2 a3 a4
        generalize four ((w.alloc (.cells #[.string s, .int .i64 i, .int .i64 j, .int .i64 0] 25)).alloc (.cells #[.string ⟨#[]⟩, .int .i64 0, .int .i64 0, .int .i64 0] 25)) a1 a2 a3 a4 = w1 at *
        have hC := (two_cu w s i j 0).1.below hb1 (by simp; omega)
        have hR := (two_cu w s i j 0).2.below hb1 (by simp)
        have HB := Lib.hid (below_two w _ _ _ hb1)
        have hlt1 : w.heap.size + 1 < w1.heap.size := hR.lt
        clear hb1 D1
        have HC0 := Lib.hid (Cu.put (s' := s) (p' := i1) (q' := j1) (k' := k1) hC)
        have HR0 := Lib.hid (Cu.put_other (s' := s) (p' := i1) (q' := j1) (k' := k1) hR (c := w.heap.size) (by omega))
        have HB0 := Lib.hid (below_put4 (s := s) (p := i1) (q := j1) (k := k1) (b := w.heap.size) HB.out (Nat.le_refl _))
        unfold put4 at HC0 HR0 HB0
        obtain ⟨c0, c1, c2, c3, f0, f1, f2, f3⟩ := hC
        clear hR HB
        go_wp2_with fail
        clear c0 c1 c2 c3 f0 f1 f2 f3
        go_loopg [7] g (fun gk nv wr => ∃ (p q k n : Nat), gk ≤ g ∧ nv = .int .i64 n ∧ p ≤ s.size ∧ q ≤ 60 ∧ n ≤ s.size ∧ (k = 0 → n ≤ p) ∧ Hid (Cu wr w.heap.size s p q k) ∧ Hid (Cu wr (w.heap.size + 1) ⟨#[]⟩ 0 0 0) ∧ Hid (Below w.heap.size w wr) ∧
          Hid (∃ r : RS, Sm3 p q k r ∧ r.1 ≤ s.size ∧ r.2.1 ≤ 60 ∧ needL s r.1 r.2.2 ≤ gk ∧ T = skP s gk true r))
        case atStart => exact ⟨i1, j1, k1, 0, Nat.le_refl _, rfl, hA, hJ, Nat.zero_le _, fun _ => Nat.zero_le _, HC0, HR0, HB0, hS0⟩
        case round =>
          obtain ⟨p, q, k, n, hgk, rfl, hp, hq, hnz, hnp, HC, HR, HB, HS⟩ := hrel
          clear HC0 HR0 HB0 hS0 hA hJ hge
          by_cases hm : moreB s p k = true
          · obtain ⟨rfl, hlt⟩ := more_k hm
            have hnp := hnp rfl
            obtain ⟨r, hr, _, _, hnd, hT⟩ := HS.out
            obtain rfl : r = (p, q, 0) := by
              rcases hr with ⟨_, e⟩ | ⟨e, _⟩
              · exact e
              · exact absurd rfl e
            simp only at hnd
            obtain ⟨g', rfl⟩ : ∃ g', gk = g' + 1 := ⟨gk - 1, by unfold needL at hnd; split at hnd <;> omega⟩
            have hnS : needS s p 0 ≤ g' := by unfold needL at hnd; unfold needS; rw [if_neg (by omega)] at hnd ⊢; omega
            have hT2 : T = skP s g' true (skP s g' false (p, q, 0)) := by rw [hT, skP, if_pos hm]
            have hkeep := skP_keeps s g' false (p, q, 0) (by show p ≤ s.size; omega) hq
            have hmove : (skP s g' false (p, q, 0)).2.2 ≠ 0 ∨ p < (skP s g' false (p, q, 0)).1 := by
              obtain ⟨q', rfl⟩ : ∃ q', g' = q' + 1 := ⟨g' - 1, by unfold needS at hnS; rw [if_neg (by omega)] at hnS; omega⟩
              exact skP_moves s q' p q hlt hq
            have hnew : needL s (skP s g' false (p, q, 0)).1 (skP s g' false (p, q, 0)).2.2 ≤ g' := by
              unfold needL at hnd ⊢
              rw [if_neg (by omega)] at hnd
              by_cases hzz : (skP s g' false (p, q, 0)).2.2 ≠ 0
              · rw [if_pos hzz]; omega
              · rw [if_neg hzz]
                rcases hmove with h1 | h1
                · exact absurd h1 hzz
                · omega
            have HT2 := Lib.hid hT2
            have HK := Lib.hid hkeep
            have HM := Lib.hid hmove
            have HN := Lib.hid hnew
            have M := Lib.hid (fun w => cmore_any s p q 0 w hp hz)
            rw [hm] at M
            have DS := Lib.hid (fun w => IH.out g' (by omega) p q w hlt hq hnS)
            clear HS hr hnd hT hnS hT2 hkeep hmove hnew hm
            have hle : (n : Int) ≤ (s.size : Int) := by omega
            obtain ⟨c0, c1, c2, c3, f0, f1, f2, f3⟩ := HC.out
            unfold cv at M DS
            go_wp2_with fail
            refine (M.out _).mono ?_
            rintro e w5 ⟨rfl, hb5⟩
            have HC5 := Lib.hid (HC.out.below hb5 HC.out.lt)
            have HR5 := Lib.hid (HR.out.below hb5 HR.out.lt)
            have HB5 := Lib.hid (HB.out.trans (hb5.mono HB.out.size))
            clear c0 c1 c2 c3 f0 f1 f2 f3 hb5 HC HR HB M
            obtain ⟨c0, c1, c2, c3, f0, f1, f2, f3⟩ := HC5.out
            go_wp2_with fail
            refine (DS.out _).mono ?_
            rintro e w6 ⟨⟨p', q', k', rfl, hp', hq', hs'⟩, hb6⟩
            have hC6 := HC5.out.below hb6 HC5.out.lt
            have hR6 := HR5.out.below hb6 HR5.out.lt
            have HB6 := HB5.out.trans (hb6.mono HB5.out.size)
            clear c0 c1 c2 c3 f0 f1 f2 f3 hb6 HC5 HR5 HB5 DS
            have HCn := Lib.hid (Cu.put (s' := s) (p' := p') (q' := q') (k' := k') hC6)
            have HRn := Lib.hid (Cu.put_other (s' := s) (p' := p') (q' := q') (k' := k') hR6 (c := w.heap.size) (by omega))
            have HBn := Lib.hid (below_put4 (s := s) (p := p') (q := q') (k := k') (b := w.heap.size) HB6 (Nat.le_refl _))
            unfold put4 at HCn HRn HBn
            have HS' := Lib.hid hs'
            obtain ⟨c0, c1, c2, c3, f0, f1, f2, f3⟩ := hC6
            clear hR6 HB6 hs'
            go_wp2_with fail
            go_roundg g'
            case measure => omega
            case rel =>
              refine ⟨p', q', k', n + 1, by omega, by go_num, hp', hq', by omega, ?_, HCn, HRn, HBn, Lib.hid ⟨_, HS'.out, HK.out.1, HK.out.2.1, HN.out, HT2.out⟩⟩
              intro hk0
              rcases HS'.out with ⟨_, e⟩ | ⟨e, _⟩
              · rcases HM.out with h1 | h1
                · rw [e] at h1; exact absurd rfl h1
                · rw [e] at h1; simp only at h1; omega
              · exact absurd hk0 e
          · have hm2 : moreB s p k = false := by simpa using hm
            have M := Lib.hid (fun w => cmore_any s p q k w hp hz)
            rw [hm2] at M
            have DC := Lib.hid (fun w => crclose_any s p q k w hp hq hz)
            have HF : Hid (Sm3 (clA s p q k) (clJ s p q k) (clE s p q k) T) := Lib.hid (by
              obtain ⟨r, hr, hr1, hr2, hnd, hT⟩ := HS.out
              obtain ⟨g', rfl⟩ : ∃ g', gk = g' + 1 := ⟨gk - 1, by unfold needL at hnd; split at hnd <;> omega⟩
              rcases hr with ⟨rfl, rfl⟩ | ⟨h1, h2⟩
              · rw [skP, if_neg hm] at hT
                simp only at hT
                by_cases hE : clE s p q 0 = 0
                · exact .inl ⟨hE, by rw [hT, hE]⟩
                · exact .inr ⟨hE, by rw [hT]; exact hE⟩
              · exact .inr ⟨cl_sticky s p q k h1, by rw [hT]; exact (skP_keeps s (g' + 1) true r hr1 hr2).2.2.2 h2⟩)
            have HA := Lib.hid (clA_le s p q k hp)
            have HJ := Lib.hid (clJ_le s p q k hq)
            clear HS hm hm2
            generalize clA s p q k = A at *
            generalize clJ s p q k = J at *
            generalize clE s p q k = E at *
            have hle : (n : Int) ≤ (s.size : Int) := by omega
            obtain ⟨c0, c1, c2, c3, f0, f1, f2, f3⟩ := HC.out
            unfold cv at M DC
            go_wp2_with fail
            refine (M.out _).mono ?_
            rintro e w5 ⟨rfl, hb5⟩
            have HC5 := Lib.hid (HC.out.below hb5 HC.out.lt)
            have HR5 := Lib.hid (HR.out.below hb5 HR.out.lt)
            have HB5 := Lib.hid (HB.out.trans (hb5.mono HB.out.size))
            clear c0 c1 c2 c3 f0 f1 f2 f3 hb5 HC HR HB M
            obtain ⟨c0, c1, c2, c3, f0, f1, f2, f3⟩ := HC5.out
            go_wp2_with fail
            refine (DC.out _).mono ?_
            rintro e w6 ⟨rfl, hb6⟩
            have hR6 := HR5.out.below hb6 HR5.out.lt
            have HB6 := Lib.hid (HB5.out.trans (hb6.mono HB5.out.size))
            clear c0 c1 c2 c3 f0 f1 f2 f3 hb6 HC5 HR5 HB5 DC
            have hRp := Cu.put (s' := s) (p' := A) (q' := J) (k' := E) hR6
            obtain ⟨y0, y1, y2, y3, _, _, _, _⟩ := hRp
            unfold put4 at y0 y1 y2 y3
            obtain ⟨r0, r1, r2, r3, g0, g1, g2, g3⟩ := hR6
            go_wp2_with fail
            refine bodyPost_ret (v := cv s A J E) ?_ rfl ⟨⟨A, J, E, rfl, HA.out, HJ.out, HF.out⟩, ?_⟩
            · simp [results, Tryd.results8, go_sem, cv, y0, y1, y2, y3]
            · exact below_put4 (s := s) (p := A) (q := J) (k := E) HB6.out (by omega)
      · have e0 : skP s (g + 1) false (i, j, 0) = ((txP s i 0 s.size).1, j, (txP s i 0 s.size).2.1) := by rw [skP, if_neg ha, if_neg hb]
        rw [e0]
        have hy1 : ((s[i].toNat : Int) == 40) = false := by unfold stB at hb; rw [dif_pos hi] at hb; rw [beq_eq_false_iff_ne]; intro h; exact hb (by simp; omega)
        have hy2 : decide ((s[i].toNat : Int) = 40) = false := by simpa using hy1
        have HS := Lib.hid (sm3_of (j := j) (rt_sm s i (by omega) hz))
        have HL := Lib.hid (rt_le s i (by omega))
        have D1 := Lib.hid (fun w => crtext_any s i j w (by omega) hz)
        clear e0 ha ha2 hb hn
        generalize rtP s i = r at *
        obtain ⟨p, e⟩ := r
        simp only at HS HL D1
        unfold cv at D1 ⊢
        go_enter Tryd.func8, Tryd.ntmps8
        go_wp2_with fail
        refine (D1.out _).mono ?_
        rintro e1 w1 ⟨⟨v, rfl⟩, hb1⟩
        have hC := (two_cu w s i j 0).1.below hb1 (by simp; omega)
        have hR := (two_cu w s i j 0).2.below hb1 (by simp)
        have HB := Lib.hid (below_two w _ _ _ hb1)
        have hlt1 : w.heap.size + 1 < w1.heap.size := hR.lt
        have hne : w1.heap.size ≠ w.heap.size + 1 := by omega
        have hne2 : w1.heap.size ≠ w.heap.size := by omega
        clear hb1 D1
        obtain ⟨c0, c1, c2, c3, f0, f1, f2, f3⟩ := hC
        have hRp := (Cu.put (s' := s) (p' := p) (q' := j) (k' := e) hR).below ((Below.refl _ _).alloc (Nat.le_refl _) (.cells #[.string s, .int .i64 p, .int .i64 j, .int .i64 e] 25)) (by rw [size_put4]; omega)
        obtain ⟨y0, y1, y2, y3, _, _, _, _⟩ := hRp
        unfold put4 at y0 y1 y2 y3
        obtain ⟨r0, r1, r2, r3, g0, g1, g2, g3⟩ := hR
        go_wp2_with fail
        refine bodyPost_ret (v := cv s p j e) ?_ rfl ⟨⟨p, j, e, rfl, HL.out, hj, HS.out⟩, ?_⟩
        · simp [results, Tryd.results8, go_sem, cv, y0, y1, y2, y3]
        · exact (below_put4 (s := s) (p := p) (q := j) (k := e) HB.out (by omega)).alloc (by rw [size_put4]; omega) _
end Go.Proofs.YtbebkchfmebcmaaDoor
