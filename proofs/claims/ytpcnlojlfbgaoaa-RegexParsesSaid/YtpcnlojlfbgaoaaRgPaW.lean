/-
  THE WALK of scribelaw09.RegexParses: it returns true and writes to nothing that was there.
-/
import Derived.Test.YtpcnlojlfbgaoaaRqE
import Derived.Test.YtpcnlojlfbgaoaaRqF
import Derived.Test.YtpcnlojlfbgaoaaRgA
import Derived.Test.YtpcnlojlfbgaoaaCutA
import Derived.Deep.RegionHeld3
namespace Go.Proofs.Ytpcnlojlfbgaoaa
open Go.RowKit

/-- What layer 9's Parse hands back of any text. -/
def PnPost (s : ByteArray) (w : World) (e : Ending) (w' : World) : Prop :=
  (∃ (nd : Nd) (p er : Int), e = .returned (.tuple #[nd.val, .int .i64 p, .int .i64 er]) ∧
    ((300 < s.size ∧ p = 0 ∧ er = 12 ∧ nd = Nd.zero) ∨
     (s.size ≤ 300 ∧ ∃ t r, topR withW notW orW s.data.toList = .ok (t, r) ∧ p = 0 ∧ er = 0 ∧ TreeN w' (fun _ => True) t nd) ∨
     (s.size ≤ 300 ∧ ∃ n0 k : Nat, topR withW notW orW s.data.toList = .error (n0, k) ∧ er = (k : Int) ∧ p = ((s.size - n0 : Nat) : Int) ∧ nd = Nd.zero))) ∧ Below w.heap.size w w'
theorem rp_results (w : World) (arr : Array Value) (g : Nat) (x y : Int) (h' : BlkN w g Nd.zero) (h2 : arr[2]?.getD undef = (.pointer (some ⟨g, 0, none⟩))) (h3 : arr[3]?.getD undef = .int .i64 x) (h4 : arr[4]?.getD undef = .int .i64 y) :
    (results Try.f5 arr).run Try.prog w = .ok (.tuple #[Nd.zero.val, .int .i64 x, .int .i64 y]) w := by
  obtain ⟨d0, d1, d2, d3, d4, d5, -⟩ := h'.cells
  simp [results, Try.results5, go_sem, Nd.val, d0, d1, d2, d3, d4, d5, h2, h3, h4]
set_option maxHeartbeats 4000000 in
theorem rparse_all (s : ByteArray) (w : World) : Calls Try.prog 5 #[.string s] w (PnPost s w) := by
  by_cases hs : s.size ≤ 300
  · refine (rparse_any s w hs).mono fun e w' ⟨hb, hp⟩ => ?_
    rcases hp with ⟨t, r, nd, h1, h2, h3⟩ | ⟨n, k, h1, h2, _, h4⟩
    · exact ⟨⟨nd, 0, 0, h2, .inr (.inl ⟨hs, t, r, h1, rfl, rfl, h3.kept (fun _ _ _ => rfl) (fun _ _ _ => trivial)⟩)⟩, hb⟩
    · exact ⟨⟨Nd.zero, _, _, h4, .inr (.inr ⟨hs, n, k, h1, rfl, rfl, rfl⟩)⟩, hb⟩
  · have hsI : (300 : Int) < (s.size : Int) := by omega
    have HS := Lib.hid hs
    have H1 := Lib.hid (show BlkN (w.alloc (.cells #[.int .i64 0, .int .u64 0, .int .u64 0, .int .u64 0, .int .u64 0, .slice none 0 0] 28)) w.heap.size Nd.zero from BlkN.new w)
    have HB1 := Lib.hid ((Below.refl w.heap.size w).alloc (Nat.le_refl _) (.cells #[.int .i64 0, .int .u64 0, .int .u64 0, .int .u64 0, .int .u64 0, .slice none 0 0] 28))
    clear hs
    go_enter Try.func5, Try.ntmps5
    go_wp2_with fail
    refine bodyPost_ret (v := .tuple #[Nd.zero.val, .int .i64 0, .int .i64 12]) ?_ rfl ?_
    · exact rp_results _ _ _ _ _ H1.out rfl rfl rfl
    · exact ⟨⟨_, _, _, rfl, .inl ⟨by have := HS.out; omega, rfl, rfl, rfl⟩⟩, HB1.out⟩
/-- What lies in memory behind the two calls of Parse. -/
structure PaS (w0 : World) (g1 g2 : Nat) (n1 : Nd) (m : RNd) (W : World) : Prop where
  a : BlkN W g1 n1
  b : Sn W g2 m
  bel : Below w0.heap.size w0 W
theorem PaS.below {w0 : World} {g1 g2 : Nat} {n1 : Nd} {m : RNd} {W W' : World} (h : PaS w0 g1 g2 n1 m W) (hb : Below W.heap.size W W') : PaS w0 g1 g2 n1 m W' := ⟨h.a.below hb, h.b.keep hb, h.bel.trans (hb.mono h.bel.size)⟩
theorem PaS.drew {w0 : World} {g1 g2 : Nat} {n1 : Nd} {m : RNd} {W : World} (h : PaS w0 g1 g2 n1 m W) : PaS w0 g1 g2 n1 m W.drew := h.below (Below.refl _ _).drew
structure PaT (w0 : World) (t : RT) (g1 g2 : Nat) (n1 : Nd) (m : RNd) (W : World) : Prop where
  s : PaS w0 g1 g2 n1 m W
  ta : TreeN W (fun _ => True) t n1
  tm : TreeM W (fun _ => True) t m
theorem PaT.below {w0 : World} {t : RT} {g1 g2 : Nat} {n1 : Nd} {m : RNd} {W W' : World} (h : PaT w0 t g1 g2 n1 m W) (hb : Below W.heap.size W W') : PaT w0 t g1 g2 n1 m W' :=
  ⟨h.s.below hb, h.ta.kept (fun g _ hl => hb.block g hl) (fun _ _ _ => trivial), h.tm.below hb⟩
theorem PaT.drew {w0 : World} {t : RT} {g1 g2 : Nat} {n1 : Nd} {m : RNd} {W : World} (h : PaT w0 t g1 g2 n1 m W) : PaT w0 t g1 g2 n1 m W.drew := h.below (Below.refl _ _).drew
set_option maxHeartbeats 8000000 in
set_option maxRecDepth 100000 in
theorem parses_walk (s0 : ByteArray) (w0 : s0.size ≤ maxLen) (w : World) :
    Calls Try.prog 3 #[.string s0] w fun e w' => e = .returned (.bool true) ∧ Below w.heap.size w w' := by
  have C0 : Hid (∀ W, Calls Try.prog 4 #[.string s0, .int .i64 320] W fun e w' => e = .returned (.string (cutB s0 320)) ∧ W = w') := Lib.hid fun W => cut_any s0 320 W w0 (by omega)
  have hts := cutB_size s0 320
  generalize cutB s0 320 = s at *
  have PA := Lib.hid (rparse_all s)
  have PB := Lib.hid (rfparse_any s)
  have AW := Lib.hid ragwake_any
  clear w0
  go_enter Try.func3, Try.ntmps3
  go_wp2_with ((with_reducible refine (C0.out _).mono ?_); rintro e w' ⟨rfl, rfl⟩)
  unfold PnPost Nd.val at PA
  refine (PA.out _).mono ?_
  rintro e w1 ⟨⟨n1, a1, er1, rfl, hra1⟩, hb1⟩
  have HR1 := Lib.hid hra1
  have HN1 := Lib.hid (show BlkN (w1.alloc (.cells #[.int .i64 n1.op, .int .u64 n1.set.a, .int .u64 n1.set.b, .int .u64 n1.set.c, .int .u64 n1.set.d, .slice n1.kp n1.kn n1.kc] 28)) w1.heap.size n1 from heap_alloc_new w1 _)
  have HBA := Lib.hid (show Below w1.heap.size w1 (w1.alloc (.cells #[.int .i64 n1.op, .int .u64 n1.set.a, .int .u64 n1.set.b, .int .u64 n1.set.c, .int .u64 n1.set.d, .slice n1.kp n1.kn n1.kc] 28)) from (Below.refl _ _).alloc (Nat.le_refl _) _)
  have HB1 := Lib.hid (hb1.alloc hb1.size (.cells #[.int .i64 n1.op, .int .u64 n1.set.a, .int .u64 n1.set.b, .int .u64 n1.set.c, .int .u64 n1.set.d, .slice n1.kp n1.kn n1.kc] 28))
  clear hra1 hb1 PA C0
  go_wp2_with fail
  generalize hwa : w1.alloc (.cells #[.int .i64 n1.op, .int .u64 n1.set.a, .int .u64 n1.set.b, .int .u64 n1.set.c, .int .u64 n1.set.d, .slice n1.kp n1.kn n1.kc] 28) = wa at *
  clear hwa
  obtain ⟨g1, hg1⟩ : ∃ g, w1.heap.size = g := ⟨_, rfl⟩
  rw [hg1] at HN1 ⊢
  unfold PfPost RNd.val at PB
  refine (PB.out _).mono ?_
  rintro e w2 ⟨⟨m, a2, er2, rfl, hra2⟩, hb2⟩
  have HJ : Hid ((∃ x : Int, (x != 0) = true ∧ a2 = a1 ∧ er1 = x ∧ er2 = x ∧ n1 = ⟨0, ⟨0, 0, 0, 0⟩, none, 0, 0⟩) ∨ (∃ t, a1 = 0 ∧ er1 = 0 ∧ a2 = 0 ∧ er2 = 0 ∧ (printL t).length ≤ 1000000 ∧ TreeN w1 (fun _ => True) t n1 ∧ TreeM w2 (fun _ => True) t m)) := Lib.hid (by
    have hsl : s.data.toList.length = s.size := by simp
    rcases HR1.out with ⟨h1, rfl, rfl, rfl⟩ | ⟨h1, t, r, h2, rfl, rfl, h3⟩ | ⟨h1, n0, k, h2, rfl, rfl, rfl⟩
    · rcases hra2 with ⟨k1, rfl, rfl⟩ | ⟨k1, _⟩ | ⟨k1, _⟩
      · exact .inl ⟨12, by decide, rfl, rfl, rfl, rfl⟩
      · omega
      · omega
    · rcases hra2 with ⟨k1, _⟩ | ⟨k1, t', r', k2, rfl, rfl, k3⟩ | ⟨k1, n0, k, k2, _⟩
      · omega
      · rw [h2] at k2
        cases k2
        have := top_cost h2
        exact .inr ⟨t, rfl, rfl, rfl, rfl, by omega, h3, k3.mono (fun _ _ => trivial)⟩
      · rw [h2] at k2; cases k2
    · rcases hra2 with ⟨k1, _⟩ | ⟨k1, t', r', k2, _⟩ | ⟨k1, n0', k', k2, hk, _, rfl, rfl⟩
      · omega
      · rw [h2] at k2; cases k2
      · rw [h2] at k2
        cases k2
        exact .inl ⟨(k : Int), by rcases hk with rfl | rfl <;> decide, rfl, rfl, rfl, rfl⟩)
  have HBb := Lib.hid (show Below wa.heap.size wa (w2.alloc (.cells #[.int .i64 m.op, .string m.set, .slice m.kp m.kn m.kc] 34)) from hb2.alloc hb2.size _)
  have HN2 := Lib.hid (Sn.new w2 34 m)
  have HBc := Lib.hid (show Below w2.heap.size w2 (w2.alloc (.cells #[.int .i64 m.op, .string m.set, .slice m.kp m.kn m.kc] 34)) from (Below.refl _ _).alloc (Nat.le_refl _) _)
  clear hra2 hb2 PB HR1
  have HS : Hid (PaS w g1 w2.heap.size n1 m (w2.alloc (.cells #[.int .i64 m.op, .string m.set, .slice m.kp m.kn m.kc] 34))) := Lib.hid ⟨HN1.out.below HBb.out, HN2.out, HB1.out.trans (HBb.out.mono HB1.out.size)⟩
  rcases HJ.out with ⟨x, hx, rfl, rfl, rfl, rfl⟩ | ⟨t, rfl, rfl, rfl, rfl, hpl, hta, htm⟩
  · clear HJ HBA HB1 HBb HN2 HBc HN1
    go_wp2_with fail
    generalize w2.heap.size = g2 at *
    generalize w2.alloc (.cells #[.int .i64 m.op, .string m.set, .slice m.kp m.kn m.kc] 34) = wc at *
    refine wp_region_held_drew (S := fun w' => PaS w g1 g2 ⟨0, ⟨0, 0, 0, 0⟩, none, 0, 0⟩ m w') (by kernel_rfl) (PaS.drew HS.out) (fun hHeld => ?_)
    refine wpAnyH_ready (rs := [0]) (by kernel_rfl) (by simp) ?_
    refine AllReadyH.cons (o := _) rfl (fun K hK => ?_) AllReadyH.nil
    go_simp
    refine (AW.out _).mono ?_
    rintro e w8 ⟨rfl, hb8⟩
    refine hK.out _ _ (hHeld.below hb8) (fun hHeld => ?_)
    clear hK K
    try simp only [List.getElem_toArray, List.getElem_cons_zero, List.getElem_cons_succ, Act.put, List.setIfInBounds_toArray, List.set_cons_zero, List.set_cons_succ]
    refine wpAnyH_take (i := 1) (oi := _) (v := ?_) rfl (by kernel_rfl) (by kernel_rfl) (by kernel_rfl) (fun _ _ _ h => h) (Or.inl ⟨by rfl, ?_⟩) (by assumption) ?_
    rotate_left
    · (intro w hSw; (obtain ⟨⟨q0, q1, q2, q3, q4, q5, _, _, _, _, _, _⟩, ⟨y0, y1, y2, _, _, _⟩⟩ := And.intro (BlkN.cells hSw.a) hSw.b); (try dsimp only at q0 q1 q2 q3 q4 q5); go_simp; try with_reducible rfl)
    try simp only [List.getElem_toArray, List.getElem_cons_zero, List.getElem_cons_succ, Act.put, List.setIfInBounds_toArray, List.set_cons_zero, List.set_cons_succ]
    refine wpAnyH_take (i := 2) (oi := _) (v := ?_) rfl (by kernel_rfl) (by kernel_rfl) (by kernel_rfl) (fun _ _ _ h => h) (Or.inl ⟨by rfl, ?_⟩) (by assumption) ?_
    rotate_left
    · (intro w hSw; (obtain ⟨⟨q0, q1, q2, q3, q4, q5, _, _, _, _, _, _⟩, ⟨y0, y1, y2, _, _, _⟩⟩ := And.intro (BlkN.cells hSw.a) hSw.b); (try dsimp only at q0 q1 q2 q3 q4 q5); go_simp; try with_reducible rfl)
    try simp only [List.getElem_toArray, List.getElem_cons_zero, List.getElem_cons_succ, Act.put, List.setIfInBounds_toArray, List.set_cons_zero, List.set_cons_succ]
    refine wpAnyH_take (i := 3) (oi := _) (v := ?_) rfl (by kernel_rfl) (by kernel_rfl) (by kernel_rfl) (fun _ _ _ h => h) (Or.inl ⟨by rfl, ?_⟩) (by assumption) ?_
    rotate_left
    · (intro w hSw; (obtain ⟨⟨q0, q1, q2, q3, q4, q5, _, _, _, _, _, _⟩, ⟨y0, y1, y2, _, _, _⟩⟩ := And.intro (BlkN.cells hSw.a) hSw.b); (try dsimp only at q0 q1 q2 q3 q4 q5); go_simp; try with_reducible rfl)
    try simp only [List.getElem_toArray, List.getElem_cons_zero, List.getElem_cons_succ, Act.put, List.setIfInBounds_toArray, List.set_cons_zero, List.set_cons_succ]
    refine wpAnyH_take (i := 4) (oi := _) (v := ?_) rfl (by kernel_rfl) (by kernel_rfl) (by kernel_rfl) (fun _ _ _ h => h) (Or.inl ⟨by rfl, ?_⟩) (by assumption) ?_
    rotate_left
    · (intro w hSw; (obtain ⟨⟨q0, q1, q2, q3, q4, q5, _, _, _, _, _, _⟩, ⟨y0, y1, y2, _, _, _⟩⟩ := And.intro (BlkN.cells hSw.a) hSw.b); (try dsimp only at q0 q1 q2 q3 q4 q5); go_simp; (try rw [beq_self_eq_true]); try with_reducible rfl)
    try simp only [List.getElem_toArray, List.getElem_cons_zero, List.getElem_cons_succ, Act.put, List.setIfInBounds_toArray, List.set_cons_zero, List.set_cons_succ]
    refine wpAnyH_take (i := 5) (oi := _) (v := ?_) rfl (by kernel_rfl) (by kernel_rfl) (by kernel_rfl) (fun _ _ _ h => h) (Or.inl ⟨by rfl, ?_⟩) (by assumption) ?_
    rotate_left
    · (intro w hSw; (obtain ⟨⟨q0, q1, q2, q3, q4, q5, _, _, _, _, _, _⟩, ⟨y0, y1, y2, _, _, _⟩⟩ := And.intro (BlkN.cells hSw.a) hSw.b); (try dsimp only at q0 q1 q2 q3 q4 q5); go_simp; try with_reducible rfl)
    try simp only [List.getElem_toArray, List.getElem_cons_zero, List.getElem_cons_succ, Act.put, List.setIfInBounds_toArray, List.set_cons_zero, List.set_cons_succ]
    refine wpAnyH_take (i := 6) (oi := _) (v := ?_) rfl (by kernel_rfl) (by kernel_rfl) (by kernel_rfl) (fun _ _ _ h => h) (Or.inl ⟨by rfl, ?_⟩) (by assumption) ?_
    rotate_left
    · (intro w hSw; (obtain ⟨⟨q0, q1, q2, q3, q4, q5, _, _, _, _, _, _⟩, ⟨y0, y1, y2, _, _, _⟩⟩ := And.intro (BlkN.cells hSw.a) hSw.b); (try dsimp only at q0 q1 q2 q3 q4 q5); go_simp; try with_reducible rfl)
    try simp only [List.getElem_toArray, List.getElem_cons_zero, List.getElem_cons_succ, Act.put, List.setIfInBounds_toArray, List.set_cons_zero, List.set_cons_succ]
    refine wpAnyH_take (i := 7) (oi := _) (v := ?_) rfl (by kernel_rfl) (by kernel_rfl) (by kernel_rfl) (fun _ _ _ h => h) (Or.inl ⟨by rfl, ?_⟩) (by assumption) ?_
    rotate_left
    · (intro w hSw; (obtain ⟨⟨q0, q1, q2, q3, q4, q5, _, _, _, _, _, _⟩, ⟨y0, y1, y2, _, _, _⟩⟩ := And.intro (BlkN.cells hSw.a) hSw.b); (try dsimp only at q0 q1 q2 q3 q4 q5); go_simp; try with_reducible rfl)
    try simp only [List.getElem_toArray, List.getElem_cons_zero, List.getElem_cons_succ, Act.put, List.setIfInBounds_toArray, List.set_cons_zero, List.set_cons_succ]
    refine wpAnyH_take (i := 8) (oi := _) (v := ?_) rfl (by kernel_rfl) (by kernel_rfl) (by kernel_rfl) (fun _ _ _ h => h) (Or.inl ⟨by rfl, ?_⟩) (by assumption) ?_
    rotate_left
    · (intro w hSw; (obtain ⟨⟨q0, q1, q2, q3, q4, q5, _, _, _, _, _, _⟩, ⟨y0, y1, y2, _, _, _⟩⟩ := And.intro (BlkN.cells hSw.a) hSw.b); (try dsimp only at q0 q1 q2 q3 q4 q5); go_simp; try with_reducible rfl)
    try simp only [List.getElem_toArray, List.getElem_cons_zero, List.getElem_cons_succ, Act.put, List.setIfInBounds_toArray, List.set_cons_zero, List.set_cons_succ]
    refine wpAnyH_take (i := 9) (oi := _) (v := ?_) rfl (by kernel_rfl) (by kernel_rfl) (by kernel_rfl) (fun _ _ _ h => h) (Or.inl ⟨by rfl, ?_⟩) (by assumption) ?_
    rotate_left
    · (intro w hSw; (obtain ⟨⟨q0, q1, q2, q3, q4, q5, _, _, _, _, _, _⟩, ⟨y0, y1, y2, _, _, _⟩⟩ := And.intro (BlkN.cells hSw.a) hSw.b); (try dsimp only at q0 q1 q2 q3 q4 q5); go_simp; (try rw [beq_self_eq_true]); try with_reducible rfl)
    try simp only [List.getElem_toArray, List.getElem_cons_zero, List.getElem_cons_succ, Act.put, List.setIfInBounds_toArray, List.set_cons_zero, List.set_cons_succ]
    refine wpAnyH_take (i := 10) (oi := _) (v := ?_) rfl (by kernel_rfl) (by kernel_rfl) (by kernel_rfl) (fun _ _ _ h => h) (Or.inl ⟨by rfl, ?_⟩) (by assumption) ?_
    rotate_left
    · (intro w hSw; (obtain ⟨⟨q0, q1, q2, q3, q4, q5, _, _, _, _, _, _⟩, ⟨y0, y1, y2, _, _, _⟩⟩ := And.intro (BlkN.cells hSw.a) hSw.b); (try dsimp only at q0 q1 q2 q3 q4 q5); go_simp; try with_reducible rfl)
    try simp only [List.getElem_toArray, List.getElem_cons_zero, List.getElem_cons_succ, Act.put, List.setIfInBounds_toArray, List.set_cons_zero, List.set_cons_succ]
    refine wpAnyH_take (i := 11) (oi := _) (v := ?_) rfl (by kernel_rfl) (by kernel_rfl) (by kernel_rfl) (fun _ _ _ h => h) (Or.inl ⟨by rfl, ?_⟩) (by assumption) ?_
    rotate_left
    · (intro w hSw; (obtain ⟨⟨q0, q1, q2, q3, q4, q5, _, _, _, _, _, _⟩, ⟨y0, y1, y2, _, _, _⟩⟩ := And.intro (BlkN.cells hSw.a) hSw.b); (try dsimp only at q0 q1 q2 q3 q4 q5); go_simp; try with_reducible rfl)
    try simp only [List.getElem_toArray, List.getElem_cons_zero, List.getElem_cons_succ, Act.put, List.setIfInBounds_toArray, List.set_cons_zero, List.set_cons_succ]
    refine wpAnyH_take (i := 12) (oi := _) (v := ?_) rfl (by kernel_rfl) (by kernel_rfl) (by kernel_rfl) (fun _ _ _ h => h) (Or.inl ⟨by rfl, ?_⟩) (by assumption) ?_
    rotate_left
    · (intro w hSw; (obtain ⟨⟨q0, q1, q2, q3, q4, q5, _, _, _, _, _, _⟩, ⟨y0, y1, y2, _, _, _⟩⟩ := And.intro (BlkN.cells hSw.a) hSw.b); (try dsimp only at q0 q1 q2 q3 q4 q5); go_simp; try with_reducible rfl)
    try simp only [List.getElem_toArray, List.getElem_cons_zero, List.getElem_cons_succ, Act.put, List.setIfInBounds_toArray, List.set_cons_zero, List.set_cons_succ]
    refine wpAnyH_take (i := 13) (oi := _) (v := ?_) rfl (by kernel_rfl) (by kernel_rfl) (by kernel_rfl) (fun _ _ _ h => h) (Or.inl ⟨by rfl, ?_⟩) (by assumption) ?_
    rotate_left
    · (intro w hSw; (obtain ⟨⟨q0, q1, q2, q3, q4, q5, _, _, _, _, _, _⟩, ⟨y0, y1, y2, _, _, _⟩⟩ := And.intro (BlkN.cells hSw.a) hSw.b); (try dsimp only at q0 q1 q2 q3 q4 q5); go_simp; (try rw [hx]); try with_reducible rfl)
    try simp only [List.getElem_toArray, List.getElem_cons_zero, List.getElem_cons_succ, Act.put, List.setIfInBounds_toArray, List.set_cons_zero, List.set_cons_succ]
    refine wpAnyH_take (i := 14) (oi := _) (v := ?_) rfl (by kernel_rfl) (by kernel_rfl) (by kernel_rfl) (fun _ _ _ h => h) (Or.inl ⟨by rfl, ?_⟩) (by assumption) ?_
    rotate_left
    · (intro w hSw; (obtain ⟨⟨q0, q1, q2, q3, q4, q5, _, _, _, _, _, _⟩, ⟨y0, y1, y2, _, _, _⟩⟩ := And.intro (BlkN.cells hSw.a) hSw.b); (try dsimp only at q0 q1 q2 q3 q4 q5); go_simp; try with_reducible rfl)
    try simp only [List.getElem_toArray, List.getElem_cons_zero, List.getElem_cons_succ, Act.put, List.setIfInBounds_toArray, List.set_cons_zero, List.set_cons_succ]
    refine wpAnyH_take (i := 15) (oi := _) (v := ?_) rfl (by kernel_rfl) (by kernel_rfl) (by kernel_rfl) (fun _ _ _ h => h) (Or.inl ⟨by rfl, ?_⟩) (by assumption) ?_
    rotate_left
    · (intro w hSw; (obtain ⟨⟨q0, q1, q2, q3, q4, q5, _, _, _, _, _, _⟩, ⟨y0, y1, y2, _, _, _⟩⟩ := And.intro (BlkN.cells hSw.a) hSw.b); (try dsimp only at q0 q1 q2 q3 q4 q5); go_simp; try with_reducible rfl)
    try simp only [List.getElem_toArray, List.getElem_cons_zero, List.getElem_cons_succ, Act.put, List.setIfInBounds_toArray, List.set_cons_zero, List.set_cons_succ]
    refine wpAnyH_take (i := 16) (oi := _) (v := ?_) rfl (by kernel_rfl) (by kernel_rfl) (by kernel_rfl) (fun _ _ _ h => h) (Or.inl ⟨by rfl, ?_⟩) (by assumption) ?_
    rotate_left
    · (intro w hSw; (obtain ⟨⟨q0, q1, q2, q3, q4, q5, _, _, _, _, _, _⟩, ⟨y0, y1, y2, _, _, _⟩⟩ := And.intro (BlkN.cells hSw.a) hSw.b); (try dsimp only at q0 q1 q2 q3 q4 q5); go_simp; try with_reducible rfl)
    try simp only [List.getElem_toArray, List.getElem_cons_zero, List.getElem_cons_succ, Act.put, List.setIfInBounds_toArray, List.set_cons_zero, List.set_cons_succ]
    refine wpAnyH_take (i := 17) (oi := _) (v := ?_) rfl (by kernel_rfl) (by kernel_rfl) (by kernel_rfl) (fun _ _ _ h => h) (Or.inl ⟨by rfl, ?_⟩) (by assumption) ?_
    rotate_left
    · (intro w hSw; (obtain ⟨⟨q0, q1, q2, q3, q4, q5, _, _, _, _, _, _⟩, ⟨y0, y1, y2, _, _, _⟩⟩ := And.intro (BlkN.cells hSw.a) hSw.b); (try dsimp only at q0 q1 q2 q3 q4 q5); go_simp; try with_reducible rfl)
    try simp only [List.getElem_toArray, List.getElem_cons_zero, List.getElem_cons_succ, Act.put, List.setIfInBounds_toArray, List.set_cons_zero, List.set_cons_succ]
    refine wpAnyH_take (i := 18) (oi := _) (v := ?_) rfl (by kernel_rfl) (by kernel_rfl) (by kernel_rfl) (fun _ _ _ h => h) (Or.inl ⟨by rfl, ?_⟩) (by assumption) ?_
    rotate_left
    · (intro w hSw; (obtain ⟨⟨q0, q1, q2, q3, q4, q5, _, _, _, _, _, _⟩, ⟨y0, y1, y2, _, _, _⟩⟩ := And.intro (BlkN.cells hSw.a) hSw.b); (try dsimp only at q0 q1 q2 q3 q4 q5); go_simp; try with_reducible rfl)
    try simp only [List.getElem_toArray, List.getElem_cons_zero, List.getElem_cons_succ, Act.put, List.setIfInBounds_toArray, List.set_cons_zero, List.set_cons_succ]
    refine wpAnyH_take (i := 19) (oi := _) (v := ?_) rfl (by kernel_rfl) (by kernel_rfl) (by kernel_rfl) (fun _ _ _ h => h) (Or.inl ⟨by rfl, ?_⟩) (by assumption) ?_
    rotate_left
    · (intro w hSw; (obtain ⟨⟨q0, q1, q2, q3, q4, q5, _, _, _, _, _, _⟩, ⟨y0, y1, y2, _, _, _⟩⟩ := And.intro (BlkN.cells hSw.a) hSw.b); (try dsimp only at q0 q1 q2 q3 q4 q5); go_simp; try with_reducible rfl)
    try simp only [List.getElem_toArray, List.getElem_cons_zero, List.getElem_cons_succ, Act.put, List.setIfInBounds_toArray, List.set_cons_zero, List.set_cons_succ]
    refine wpAnyH_take (i := 20) (oi := _) (v := ?_) rfl (by kernel_rfl) (by kernel_rfl) (by kernel_rfl) (fun _ _ _ h => h) (Or.inl ⟨by rfl, ?_⟩) (by assumption) ?_
    rotate_left
    · (intro w hSw; (obtain ⟨⟨q0, q1, q2, q3, q4, q5, _, _, _, _, _, _⟩, ⟨y0, y1, y2, _, _, _⟩⟩ := And.intro (BlkN.cells hSw.a) hSw.b); (try dsimp only at q0 q1 q2 q3 q4 q5); go_simp; try with_reducible rfl)
    try simp only [List.getElem_toArray, List.getElem_cons_zero, List.getElem_cons_succ, Act.put, List.setIfInBounds_toArray, List.set_cons_zero, List.set_cons_succ]
    refine wpAnyH_take (i := 21) (oi := _) (v := ?_) rfl (by kernel_rfl) (by kernel_rfl) (by kernel_rfl) (fun _ _ _ h => h) (Or.inl ⟨by rfl, ?_⟩) (by assumption) ?_
    rotate_left
    · (intro w hSw; (obtain ⟨⟨q0, q1, q2, q3, q4, q5, _, _, _, _, _, _⟩, ⟨y0, y1, y2, _, _, _⟩⟩ := And.intro (BlkN.cells hSw.a) hSw.b); (try dsimp only at q0 q1 q2 q3 q4 q5); go_simp; try with_reducible rfl)
    try simp only [List.getElem_toArray, List.getElem_cons_zero, List.getElem_cons_succ, Act.put, List.setIfInBounds_toArray, List.set_cons_zero, List.set_cons_succ]
    refine wpAnyH_take (i := 22) (oi := _) (v := ?_) rfl (by kernel_rfl) (by kernel_rfl) (by kernel_rfl) (fun _ _ _ h => h) (Or.inl ⟨by rfl, ?_⟩) (by assumption) ?_
    rotate_left
    · (intro w hSw; (obtain ⟨⟨q0, q1, q2, q3, q4, q5, _, _, _, _, _, _⟩, ⟨y0, y1, y2, _, _, _⟩⟩ := And.intro (BlkN.cells hSw.a) hSw.b); (try dsimp only at q0 q1 q2 q3 q4 q5); go_simp; try with_reducible rfl)
    try simp only [List.getElem_toArray, List.getElem_cons_zero, List.getElem_cons_succ, Act.put, List.setIfInBounds_toArray, List.set_cons_zero, List.set_cons_succ]
    refine wpAnyH_take (i := 23) (oi := _) (v := ?_) rfl (by kernel_rfl) (by kernel_rfl) (by kernel_rfl) (fun _ _ _ h => h) (Or.inl ⟨by rfl, ?_⟩) (by assumption) ?_
    rotate_left
    · (intro w hSw; (obtain ⟨⟨q0, q1, q2, q3, q4, q5, _, _, _, _, _, _⟩, ⟨y0, y1, y2, _, _, _⟩⟩ := And.intro (BlkN.cells hSw.a) hSw.b); (try dsimp only at q0 q1 q2 q3 q4 q5); go_simp; try with_reducible rfl)
    try simp only [List.getElem_toArray, List.getElem_cons_zero, List.getElem_cons_succ, Act.put, List.setIfInBounds_toArray, List.set_cons_zero, List.set_cons_succ]
    refine wpAnyH_take (i := 24) (oi := _) (v := ?_) rfl (by kernel_rfl) (by kernel_rfl) (by kernel_rfl) (fun _ _ _ h => h) (Or.inl ⟨by rfl, ?_⟩) (by assumption) ?_
    rotate_left
    · (intro w hSw; (obtain ⟨⟨q0, q1, q2, q3, q4, q5, _, _, _, _, _, _⟩, ⟨y0, y1, y2, _, _, _⟩⟩ := And.intro (BlkN.cells hSw.a) hSw.b); (try dsimp only at q0 q1 q2 q3 q4 q5); go_simp; try with_reducible rfl)
    try simp only [List.getElem_toArray, List.getElem_cons_zero, List.getElem_cons_succ, Act.put, List.setIfInBounds_toArray, List.set_cons_zero, List.set_cons_succ]
    refine wpAnyH_take (i := 25) (oi := _) (v := ?_) rfl (by kernel_rfl) (by kernel_rfl) (by kernel_rfl) (fun _ _ _ h => h) (Or.inl ⟨by rfl, ?_⟩) (by assumption) ?_
    rotate_left
    · (intro w hSw; (obtain ⟨⟨q0, q1, q2, q3, q4, q5, _, _, _, _, _, _⟩, ⟨y0, y1, y2, _, _, _⟩⟩ := And.intro (BlkN.cells hSw.a) hSw.b); (try dsimp only at q0 q1 q2 q3 q4 q5); go_simp; try with_reducible rfl)
    try simp only [List.getElem_toArray, List.getElem_cons_zero, List.getElem_cons_succ, Act.put, List.setIfInBounds_toArray, List.set_cons_zero, List.set_cons_succ]
    refine wpAnyH_take (i := 26) (oi := _) (v := undef) rfl (by kernel_rfl) (by kernel_rfl) (by kernel_rfl) (fun _ _ _ h => h) (Or.inr ⟨by rfl, rfl⟩) (by assumption) ?_
    try simp only [List.getElem_toArray, List.getElem_cons_zero, List.getElem_cons_succ, Act.put, List.setIfInBounds_toArray, List.set_cons_zero, List.set_cons_succ]
    refine wpAnyH_take (i := 27) (oi := _) (v := undef) rfl (by kernel_rfl) (by kernel_rfl) (by kernel_rfl) (fun _ _ _ h => h) (Or.inr ⟨by rfl, rfl⟩) (by assumption) ?_
    try simp only [List.getElem_toArray, List.getElem_cons_zero, List.getElem_cons_succ, Act.put, List.setIfInBounds_toArray, List.set_cons_zero, List.set_cons_succ]
    refine wpAnyH_take (i := 28) (oi := _) (v := undef) rfl (by kernel_rfl) (by kernel_rfl) (by kernel_rfl) (fun _ _ _ h => h) (Or.inr ⟨by rfl, rfl⟩) (by assumption) ?_
    try simp only [List.getElem_toArray, List.getElem_cons_zero, List.getElem_cons_succ, Act.put, List.setIfInBounds_toArray, List.set_cons_zero, List.set_cons_succ]
    refine wpAnyH_take (i := 29) (oi := _) (v := undef) rfl (by kernel_rfl) (by kernel_rfl) (by kernel_rfl) (fun _ _ _ h => h) (Or.inr ⟨by rfl, rfl⟩) (by assumption) ?_
    try simp only [List.getElem_toArray, List.getElem_cons_zero, List.getElem_cons_succ, Act.put, List.setIfInBounds_toArray, List.set_cons_zero, List.set_cons_succ]
    refine wpAnyH_take (i := 31) (oi := _) (v := undef) rfl (by kernel_rfl) (by kernel_rfl) (by kernel_rfl) (fun _ _ _ h => h) (Or.inr ⟨by rfl, rfl⟩) (by assumption) ?_
    try simp only [List.getElem_toArray, List.getElem_cons_zero, List.getElem_cons_succ, Act.put, List.setIfInBounds_toArray, List.set_cons_zero, List.set_cons_succ]
    refine wpAnyH_take (i := 30) (oi := _) (v := undef) rfl (by kernel_rfl) (by kernel_rfl) (by kernel_rfl) (fun _ _ _ h => h) (Or.inr ⟨by rfl, rfl⟩) (by assumption) ?_
    try simp only [List.getElem_toArray, List.getElem_cons_zero, List.getElem_cons_succ, Act.put, List.setIfInBounds_toArray, List.set_cons_zero, List.set_cons_succ]
    refine wpAnyH_take (i := 32) (oi := _) (v := undef) rfl (by kernel_rfl) (by kernel_rfl) (by kernel_rfl) (fun _ _ _ h => h) (Or.inr ⟨by rfl, rfl⟩) (by assumption) ?_
    try simp only [List.getElem_toArray, List.getElem_cons_zero, List.getElem_cons_succ, Act.put, List.setIfInBounds_toArray, List.set_cons_zero, List.set_cons_succ]
    refine wpAnyH_take (i := 33) (oi := _) (v := undef) rfl (by kernel_rfl) (by kernel_rfl) (by kernel_rfl) (fun _ _ _ h => h) (Or.inr ⟨by rfl, rfl⟩) (by assumption) ?_
    try simp only [List.getElem_toArray, List.getElem_cons_zero, List.getElem_cons_succ, Act.put, List.setIfInBounds_toArray, List.set_cons_zero, List.set_cons_succ]
    refine wpAnyH_take (i := 34) (oi := _) (v := undef) rfl (by kernel_rfl) (by kernel_rfl) (by kernel_rfl) (fun _ _ _ h => h) (Or.inr ⟨by rfl, rfl⟩) (by assumption) ?_
    try simp only [List.getElem_toArray, List.getElem_cons_zero, List.getElem_cons_succ, Act.put, List.setIfInBounds_toArray, List.set_cons_zero, List.set_cons_succ]
    refine wpAnyH_take (i := 35) (oi := _) (v := ?_) rfl (by kernel_rfl) (by kernel_rfl) (by kernel_rfl) (fun _ _ _ h => h) (Or.inl ⟨by rfl, ?_⟩) (by assumption) ?_
    rotate_left
    · (intro w hSw; (obtain ⟨⟨q0, q1, q2, q3, q4, q5, _, _, _, _, _, _⟩, ⟨y0, y1, y2, _, _, _⟩⟩ := And.intro (BlkN.cells hSw.a) hSw.b); (try dsimp only at q0 q1 q2 q3 q4 q5); go_simp; try with_reducible rfl)
    try simp only [List.getElem_toArray, List.getElem_cons_zero, List.getElem_cons_succ, Act.put, List.setIfInBounds_toArray, List.set_cons_zero, List.set_cons_succ]
    refine wpAnyH_take (i := 36) (oi := _) (v := ?_) rfl (by kernel_rfl) (by kernel_rfl) (by kernel_rfl) (fun _ _ _ h => h) (Or.inl ⟨by rfl, ?_⟩) (by assumption) ?_
    rotate_left
    · (intro w hSw; (obtain ⟨⟨q0, q1, q2, q3, q4, q5, _, _, _, _, _, _⟩, ⟨y0, y1, y2, _, _, _⟩⟩ := And.intro (BlkN.cells hSw.a) hSw.b); (try dsimp only at q0 q1 q2 q3 q4 q5); go_simp; try with_reducible rfl)
    try simp only [List.getElem_toArray, List.getElem_cons_zero, List.getElem_cons_succ, Act.put, List.setIfInBounds_toArray, List.set_cons_zero, List.set_cons_succ]
    refine wpAnyH_take (i := 37) (oi := _) (v := ?_) rfl (by kernel_rfl) (by kernel_rfl) (by kernel_rfl) (fun _ _ _ h => h) (Or.inl ⟨by rfl, ?_⟩) (by assumption) ?_
    rotate_left
    · (intro w hSw; (obtain ⟨⟨q0, q1, q2, q3, q4, q5, _, _, _, _, _, _⟩, ⟨y0, y1, y2, _, _, _⟩⟩ := And.intro (BlkN.cells hSw.a) hSw.b); (try dsimp only at q0 q1 q2 q3 q4 q5); go_simp; try with_reducible rfl)
    try simp only [List.getElem_toArray, List.getElem_cons_zero, List.getElem_cons_succ, Act.put, List.setIfInBounds_toArray, List.set_cons_zero, List.set_cons_succ]
    refine wpAnyH_done (by kernel_rfl) ?_ _
    have HB9 := Lib.hid hHeld.bel
    clear hHeld
    go_wp2_with fail
    go_ret
    exact ⟨rfl, HB9.out⟩
  · have HT : Hid (PaT w t g1 w2.heap.size n1 m (w2.alloc (.cells #[.int .i64 m.op, .string m.set, .slice m.kp m.kn m.kc] 34))) := Lib.hid ⟨HS.out, (hta.kept (fun g _ hl => HBA.out.block g hl) (fun _ _ _ => trivial) : TreeN wa (fun _ => True) t n1).kept (fun g _ hl => HBb.out.block g hl) (fun _ _ _ => trivial), htm.below HBc.out⟩
    obtain ⟨T, hT⟩ : ∃ T : ByteArray, ⟨(printL t).toArray⟩ = T := ⟨_, rfl⟩
    have CA : Hid (∀ W, PaT w t g1 w2.heap.size n1 m W → Calls Try.prog 8 #[.agg #[.int .i64 n1.op, .int .u64 n1.set.a, .int .u64 n1.set.b, .int .u64 n1.set.c, .int .u64 n1.set.d, .slice n1.kp n1.kn n1.kc]] W fun e w' => e = .returned (.string T) ∧ Below W.heap.size W w') := Lib.hid fun W hW => by rw [← hT]; exact rPrint_any t n1 W _ hW.ta hpl
    have CB : Hid (∀ W, PaT w t g1 w2.heap.size n1 m W → Calls Try.prog 9 #[.agg #[.int .i64 m.op, .string m.set, .slice m.kp m.kn m.kc]] W fun e w' => e = .returned (.string T) ∧ Below W.heap.size W w') := Lib.hid fun W hW => by rw [← hT]; exact rfprint_any t m W _ hW.tm hpl
    clear HJ HBA HB1 HBb HN2 HBc HN1 hta htm hT hpl HS
    go_wp2_with fail
    generalize w2.heap.size = g2 at *
    generalize w2.alloc (.cells #[.int .i64 m.op, .string m.set, .slice m.kp m.kn m.kc] 34) = wc at *
    refine wp_region_held_drew (S := fun w' => PaT w t g1 g2 n1 m w') (by kernel_rfl) (PaT.drew HT.out) (fun hHeld => ?_)
    refine wpAnyH_ready (rs := [0]) (by kernel_rfl) (by simp) ?_
    refine AllReadyH.cons (o := _) rfl (fun K hK => ?_) AllReadyH.nil
    go_simp
    refine (AW.out _).mono ?_
    rintro e w8 ⟨rfl, hb8⟩
    refine hK.out _ _ (hHeld.below hb8) (fun hHeld => ?_)
    clear hK K
    try simp only [List.getElem_toArray, List.getElem_cons_zero, List.getElem_cons_succ, Act.put, List.setIfInBounds_toArray, List.set_cons_zero, List.set_cons_succ]
    refine wpAnyH_take (i := 1) (oi := _) (v := ?_) rfl (by kernel_rfl) (by kernel_rfl) (by kernel_rfl) (fun _ _ _ h => h) (Or.inl ⟨by rfl, ?_⟩) (by assumption) ?_
    rotate_left
    · (intro w hSw; (obtain ⟨⟨q0, q1, q2, q3, q4, q5, _, _, _, _, _, _⟩, ⟨y0, y1, y2, _, _, _⟩⟩ := And.intro (BlkN.cells hSw.s.a) hSw.s.b); (try dsimp only at q0 q1 q2 q3 q4 q5); go_simp; try with_reducible rfl)
    try simp only [List.getElem_toArray, List.getElem_cons_zero, List.getElem_cons_succ, Act.put, List.setIfInBounds_toArray, List.set_cons_zero, List.set_cons_succ]
    refine wpAnyH_take (i := 2) (oi := _) (v := ?_) rfl (by kernel_rfl) (by kernel_rfl) (by kernel_rfl) (fun _ _ _ h => h) (Or.inl ⟨by rfl, ?_⟩) (by assumption) ?_
    rotate_left
    · (intro w hSw; (obtain ⟨⟨q0, q1, q2, q3, q4, q5, _, _, _, _, _, _⟩, ⟨y0, y1, y2, _, _, _⟩⟩ := And.intro (BlkN.cells hSw.s.a) hSw.s.b); (try dsimp only at q0 q1 q2 q3 q4 q5); go_simp; try with_reducible rfl)
    try simp only [List.getElem_toArray, List.getElem_cons_zero, List.getElem_cons_succ, Act.put, List.setIfInBounds_toArray, List.set_cons_zero, List.set_cons_succ]
    refine wpAnyH_take (i := 3) (oi := _) (v := ?_) rfl (by kernel_rfl) (by kernel_rfl) (by kernel_rfl) (fun _ _ _ h => h) (Or.inl ⟨by rfl, ?_⟩) (by assumption) ?_
    rotate_left
    · (intro w hSw; (obtain ⟨⟨q0, q1, q2, q3, q4, q5, _, _, _, _, _, _⟩, ⟨y0, y1, y2, _, _, _⟩⟩ := And.intro (BlkN.cells hSw.s.a) hSw.s.b); (try dsimp only at q0 q1 q2 q3 q4 q5); go_simp; try with_reducible rfl)
    try simp only [List.getElem_toArray, List.getElem_cons_zero, List.getElem_cons_succ, Act.put, List.setIfInBounds_toArray, List.set_cons_zero, List.set_cons_succ]
    refine wpAnyH_take (i := 4) (oi := _) (v := ?_) rfl (by kernel_rfl) (by kernel_rfl) (by kernel_rfl) (fun _ _ _ h => h) (Or.inl ⟨by rfl, ?_⟩) (by assumption) ?_
    rotate_left
    · (intro w hSw; (obtain ⟨⟨q0, q1, q2, q3, q4, q5, _, _, _, _, _, _⟩, ⟨y0, y1, y2, _, _, _⟩⟩ := And.intro (BlkN.cells hSw.s.a) hSw.s.b); (try dsimp only at q0 q1 q2 q3 q4 q5); go_simp; try with_reducible rfl)
    try simp only [List.getElem_toArray, List.getElem_cons_zero, List.getElem_cons_succ, Act.put, List.setIfInBounds_toArray, List.set_cons_zero, List.set_cons_succ]
    refine wpAnyH_take (i := 5) (oi := _) (v := ?_) rfl (by kernel_rfl) (by kernel_rfl) (by kernel_rfl) (fun _ _ _ h => h) (Or.inl ⟨by rfl, ?_⟩) (by assumption) ?_
    rotate_left
    · (intro w hSw; (obtain ⟨⟨q0, q1, q2, q3, q4, q5, _, _, _, _, _, _⟩, ⟨y0, y1, y2, _, _, _⟩⟩ := And.intro (BlkN.cells hSw.s.a) hSw.s.b); (try dsimp only at q0 q1 q2 q3 q4 q5); go_simp; try with_reducible rfl)
    try simp only [List.getElem_toArray, List.getElem_cons_zero, List.getElem_cons_succ, Act.put, List.setIfInBounds_toArray, List.set_cons_zero, List.set_cons_succ]
    refine wpAnyH_take (i := 6) (oi := _) (v := ?_) rfl (by kernel_rfl) (by kernel_rfl) (by kernel_rfl) (fun _ _ _ h => h) (Or.inl ⟨by rfl, ?_⟩) (by assumption) ?_
    rotate_left
    · (intro w hSw; (obtain ⟨⟨q0, q1, q2, q3, q4, q5, _, _, _, _, _, _⟩, ⟨y0, y1, y2, _, _, _⟩⟩ := And.intro (BlkN.cells hSw.s.a) hSw.s.b); (try dsimp only at q0 q1 q2 q3 q4 q5); go_simp; try with_reducible rfl)
    try simp only [List.getElem_toArray, List.getElem_cons_zero, List.getElem_cons_succ, Act.put, List.setIfInBounds_toArray, List.set_cons_zero, List.set_cons_succ]
    refine wpAnyH_take (i := 7) (oi := _) (v := ?_) rfl (by kernel_rfl) (by kernel_rfl) (by kernel_rfl) (fun _ _ _ h => h) (Or.inl ⟨by rfl, ?_⟩) (by assumption) ?_
    rotate_left
    · (intro w hSw; (obtain ⟨⟨q0, q1, q2, q3, q4, q5, _, _, _, _, _, _⟩, ⟨y0, y1, y2, _, _, _⟩⟩ := And.intro (BlkN.cells hSw.s.a) hSw.s.b); (try dsimp only at q0 q1 q2 q3 q4 q5); go_simp; try with_reducible rfl)
    try simp only [List.getElem_toArray, List.getElem_cons_zero, List.getElem_cons_succ, Act.put, List.setIfInBounds_toArray, List.set_cons_zero, List.set_cons_succ]
    refine wpAnyH_take (i := 8) (oi := _) (v := ?_) rfl (by kernel_rfl) (by kernel_rfl) (by kernel_rfl) (fun _ _ _ h => h) (Or.inl ⟨by rfl, ?_⟩) (by assumption) ?_
    rotate_left
    · (intro w hSw; (obtain ⟨⟨q0, q1, q2, q3, q4, q5, _, _, _, _, _, _⟩, ⟨y0, y1, y2, _, _, _⟩⟩ := And.intro (BlkN.cells hSw.s.a) hSw.s.b); (try dsimp only at q0 q1 q2 q3 q4 q5); go_simp; try with_reducible rfl)
    try simp only [List.getElem_toArray, List.getElem_cons_zero, List.getElem_cons_succ, Act.put, List.setIfInBounds_toArray, List.set_cons_zero, List.set_cons_succ]
    refine wpAnyH_take (i := 9) (oi := _) (v := ?_) rfl (by kernel_rfl) (by kernel_rfl) (by kernel_rfl) (fun _ _ _ h => h) (Or.inl ⟨by rfl, ?_⟩) (by assumption) ?_
    rotate_left
    · (intro w hSw; (obtain ⟨⟨q0, q1, q2, q3, q4, q5, _, _, _, _, _, _⟩, ⟨y0, y1, y2, _, _, _⟩⟩ := And.intro (BlkN.cells hSw.s.a) hSw.s.b); (try dsimp only at q0 q1 q2 q3 q4 q5); go_simp; try with_reducible rfl)
    try simp only [List.getElem_toArray, List.getElem_cons_zero, List.getElem_cons_succ, Act.put, List.setIfInBounds_toArray, List.set_cons_zero, List.set_cons_succ]
    refine wpAnyH_take (i := 10) (oi := _) (v := ?_) rfl (by kernel_rfl) (by kernel_rfl) (by kernel_rfl) (fun _ _ _ h => h) (Or.inl ⟨by rfl, ?_⟩) (by assumption) ?_
    rotate_left
    · (intro w hSw; (obtain ⟨⟨q0, q1, q2, q3, q4, q5, _, _, _, _, _, _⟩, ⟨y0, y1, y2, _, _, _⟩⟩ := And.intro (BlkN.cells hSw.s.a) hSw.s.b); (try dsimp only at q0 q1 q2 q3 q4 q5); go_simp; try with_reducible rfl)
    try simp only [List.getElem_toArray, List.getElem_cons_zero, List.getElem_cons_succ, Act.put, List.setIfInBounds_toArray, List.set_cons_zero, List.set_cons_succ]
    refine wpAnyH_take (i := 11) (oi := _) (v := ?_) rfl (by kernel_rfl) (by kernel_rfl) (by kernel_rfl) (fun _ _ _ h => h) (Or.inl ⟨by rfl, ?_⟩) (by assumption) ?_
    rotate_left
    · (intro w hSw; (obtain ⟨⟨q0, q1, q2, q3, q4, q5, _, _, _, _, _, _⟩, ⟨y0, y1, y2, _, _, _⟩⟩ := And.intro (BlkN.cells hSw.s.a) hSw.s.b); (try dsimp only at q0 q1 q2 q3 q4 q5); go_simp; try with_reducible rfl)
    try simp only [List.getElem_toArray, List.getElem_cons_zero, List.getElem_cons_succ, Act.put, List.setIfInBounds_toArray, List.set_cons_zero, List.set_cons_succ]
    refine wpAnyH_take (i := 12) (oi := _) (v := ?_) rfl (by kernel_rfl) (by kernel_rfl) (by kernel_rfl) (fun _ _ _ h => h) (Or.inl ⟨by rfl, ?_⟩) (by assumption) ?_
    rotate_left
    · (intro w hSw; (obtain ⟨⟨q0, q1, q2, q3, q4, q5, _, _, _, _, _, _⟩, ⟨y0, y1, y2, _, _, _⟩⟩ := And.intro (BlkN.cells hSw.s.a) hSw.s.b); (try dsimp only at q0 q1 q2 q3 q4 q5); go_simp; try with_reducible rfl)
    try simp only [List.getElem_toArray, List.getElem_cons_zero, List.getElem_cons_succ, Act.put, List.setIfInBounds_toArray, List.set_cons_zero, List.set_cons_succ]
    refine wpAnyH_take (i := 13) (oi := _) (v := ?_) rfl (by kernel_rfl) (by kernel_rfl) (by kernel_rfl) (fun _ _ _ h => h) (Or.inl ⟨by rfl, ?_⟩) (by assumption) ?_
    rotate_left
    · (intro w hSw; (obtain ⟨⟨q0, q1, q2, q3, q4, q5, _, _, _, _, _, _⟩, ⟨y0, y1, y2, _, _, _⟩⟩ := And.intro (BlkN.cells hSw.s.a) hSw.s.b); (try dsimp only at q0 q1 q2 q3 q4 q5); go_simp; try with_reducible rfl)
    try simp only [List.getElem_toArray, List.getElem_cons_zero, List.getElem_cons_succ, Act.put, List.setIfInBounds_toArray, List.set_cons_zero, List.set_cons_succ]
    refine wpAnyH_take (i := 14) (oi := _) (v := ?_) rfl (by kernel_rfl) (by kernel_rfl) (by kernel_rfl) (fun _ _ _ h => h) (Or.inl ⟨by rfl, ?_⟩) (by assumption) ?_
    rotate_left
    · (intro w hSw; (obtain ⟨⟨q0, q1, q2, q3, q4, q5, _, _, _, _, _, _⟩, ⟨y0, y1, y2, _, _, _⟩⟩ := And.intro (BlkN.cells hSw.s.a) hSw.s.b); (try dsimp only at q0 q1 q2 q3 q4 q5); go_simp; try with_reducible rfl)
    try simp only [List.getElem_toArray, List.getElem_cons_zero, List.getElem_cons_succ, Act.put, List.setIfInBounds_toArray, List.set_cons_zero, List.set_cons_succ]
    refine wpAnyH_take (i := 15) (oi := _) (v := undef) rfl (by kernel_rfl) (by kernel_rfl) (by kernel_rfl) (fun _ _ _ h => h) (Or.inr ⟨by rfl, rfl⟩) (by assumption) ?_
    try simp only [List.getElem_toArray, List.getElem_cons_zero, List.getElem_cons_succ, Act.put, List.setIfInBounds_toArray, List.set_cons_zero, List.set_cons_succ]
    refine wpAnyH_take (i := 16) (oi := _) (v := undef) rfl (by kernel_rfl) (by kernel_rfl) (by kernel_rfl) (fun _ _ _ h => h) (Or.inr ⟨by rfl, rfl⟩) (by assumption) ?_
    try simp only [List.getElem_toArray, List.getElem_cons_zero, List.getElem_cons_succ, Act.put, List.setIfInBounds_toArray, List.set_cons_zero, List.set_cons_succ]
    refine wpAnyH_take (i := 17) (oi := _) (v := undef) rfl (by kernel_rfl) (by kernel_rfl) (by kernel_rfl) (fun _ _ _ h => h) (Or.inr ⟨by rfl, rfl⟩) (by assumption) ?_
    try simp only [List.getElem_toArray, List.getElem_cons_zero, List.getElem_cons_succ, Act.put, List.setIfInBounds_toArray, List.set_cons_zero, List.set_cons_succ]
    refine wpAnyH_take (i := 18) (oi := _) (v := undef) rfl (by kernel_rfl) (by kernel_rfl) (by kernel_rfl) (fun _ _ _ h => h) (Or.inr ⟨by rfl, rfl⟩) (by assumption) ?_
    try simp only [List.getElem_toArray, List.getElem_cons_zero, List.getElem_cons_succ, Act.put, List.setIfInBounds_toArray, List.set_cons_zero, List.set_cons_succ]
    refine wpAnyH_take (i := 19) (oi := _) (v := ?_) rfl (by kernel_rfl) (by kernel_rfl) (by kernel_rfl) (fun _ _ _ h => h) (Or.inl ⟨by rfl, ?_⟩) (by assumption) ?_
    rotate_left
    · (intro w hSw; (obtain ⟨⟨q0, q1, q2, q3, q4, q5, _, _, _, _, _, _⟩, ⟨y0, y1, y2, _, _, _⟩⟩ := And.intro (BlkN.cells hSw.s.a) hSw.s.b); (try dsimp only at q0 q1 q2 q3 q4 q5); go_simp; try with_reducible rfl)
    try simp only [List.getElem_toArray, List.getElem_cons_zero, List.getElem_cons_succ, Act.put, List.setIfInBounds_toArray, List.set_cons_zero, List.set_cons_succ]
    refine wpAnyH_take (i := 20) (oi := _) (v := ?_) rfl (by kernel_rfl) (by kernel_rfl) (by kernel_rfl) (fun _ _ _ h => h) (Or.inl ⟨by rfl, ?_⟩) (by assumption) ?_
    rotate_left
    · (intro w hSw; (obtain ⟨⟨q0, q1, q2, q3, q4, q5, _, _, _, _, _, _⟩, ⟨y0, y1, y2, _, _, _⟩⟩ := And.intro (BlkN.cells hSw.s.a) hSw.s.b); (try dsimp only at q0 q1 q2 q3 q4 q5); go_simp; try with_reducible rfl)
    try simp only [List.getElem_toArray, List.getElem_cons_zero, List.getElem_cons_succ, Act.put, List.setIfInBounds_toArray, List.set_cons_zero, List.set_cons_succ]
    refine wpAnyH_take (i := 21) (oi := _) (v := undef) rfl (by kernel_rfl) (by kernel_rfl) (by kernel_rfl) (fun _ _ _ h => h) (Or.inr ⟨by rfl, rfl⟩) (by assumption) ?_
    try simp only [List.getElem_toArray, List.getElem_cons_zero, List.getElem_cons_succ, Act.put, List.setIfInBounds_toArray, List.set_cons_zero, List.set_cons_succ]
    refine wpAnyH_take (i := 22) (oi := _) (v := undef) rfl (by kernel_rfl) (by kernel_rfl) (by kernel_rfl) (fun _ _ _ h => h) (Or.inr ⟨by rfl, rfl⟩) (by assumption) ?_
    try simp only [List.getElem_toArray, List.getElem_cons_zero, List.getElem_cons_succ, Act.put, List.setIfInBounds_toArray, List.set_cons_zero, List.set_cons_succ]
    refine wpAnyH_take (i := 23) (oi := _) (v := undef) rfl (by kernel_rfl) (by kernel_rfl) (by kernel_rfl) (fun _ _ _ h => h) (Or.inr ⟨by rfl, rfl⟩) (by assumption) ?_
    try simp only [List.getElem_toArray, List.getElem_cons_zero, List.getElem_cons_succ, Act.put, List.setIfInBounds_toArray, List.set_cons_zero, List.set_cons_succ]
    refine wpAnyH_take (i := 24) (oi := _) (v := ?_) rfl (by kernel_rfl) (by kernel_rfl) (by kernel_rfl) (fun _ _ _ h => h) (Or.inl ⟨by rfl, ?_⟩) (by assumption) ?_
    rotate_left
    · (intro w hSw; (obtain ⟨⟨q0, q1, q2, q3, q4, q5, _, _, _, _, _, _⟩, ⟨y0, y1, y2, _, _, _⟩⟩ := And.intro (BlkN.cells hSw.s.a) hSw.s.b); (try dsimp only at q0 q1 q2 q3 q4 q5); go_simp; try with_reducible rfl)
    try simp only [List.getElem_toArray, List.getElem_cons_zero, List.getElem_cons_succ, Act.put, List.setIfInBounds_toArray, List.set_cons_zero, List.set_cons_succ]
    refine wpAnyH_take (i := 25) (oi := _) (v := ?_) rfl (by kernel_rfl) (by kernel_rfl) (by kernel_rfl) (fun _ _ _ h => h) (Or.inl ⟨by rfl, ?_⟩) (by assumption) ?_
    rotate_left
    · (intro w hSw; (obtain ⟨⟨q0, q1, q2, q3, q4, q5, _, _, _, _, _, _⟩, ⟨y0, y1, y2, _, _, _⟩⟩ := And.intro (BlkN.cells hSw.s.a) hSw.s.b); (try dsimp only at q0 q1 q2 q3 q4 q5); go_simp; try with_reducible rfl)
    try simp only [List.getElem_toArray, List.getElem_cons_zero, List.getElem_cons_succ, Act.put, List.setIfInBounds_toArray, List.set_cons_zero, List.set_cons_succ]
    refine wpAnyH_take (i := 26) (oi := _) (v := ?_) rfl (by kernel_rfl) (by kernel_rfl) (by kernel_rfl) (fun _ _ _ h => h) (Or.inl ⟨by rfl, ?_⟩) (by assumption) ?_
    rotate_left
    · (intro w hSw; (obtain ⟨⟨q0, q1, q2, q3, q4, q5, _, _, _, _, _, _⟩, ⟨y0, y1, y2, _, _, _⟩⟩ := And.intro (BlkN.cells hSw.s.a) hSw.s.b); (try dsimp only at q0 q1 q2 q3 q4 q5); go_simp; try with_reducible rfl)
    try simp only [List.getElem_toArray, List.getElem_cons_zero, List.getElem_cons_succ, Act.put, List.setIfInBounds_toArray, List.set_cons_zero, List.set_cons_succ]
    refine wpAnyH_take (i := 27) (oi := _) (v := ?_) rfl (by kernel_rfl) (by kernel_rfl) (by kernel_rfl) (fun _ _ _ h => h) (Or.inl ⟨by rfl, ?_⟩) (by assumption) ?_
    rotate_left
    · (intro w hSw; (obtain ⟨⟨q0, q1, q2, q3, q4, q5, _, _, _, _, _, _⟩, ⟨y0, y1, y2, _, _, _⟩⟩ := And.intro (BlkN.cells hSw.s.a) hSw.s.b); (try dsimp only at q0 q1 q2 q3 q4 q5); go_simp; try with_reducible rfl)
    try simp only [List.getElem_toArray, List.getElem_cons_zero, List.getElem_cons_succ, Act.put, List.setIfInBounds_toArray, List.set_cons_zero, List.set_cons_succ]
    refine wpAnyH_take (i := 28) (oi := _) (v := ?_) rfl (by kernel_rfl) (by kernel_rfl) (by kernel_rfl) (fun _ _ _ h => h) (Or.inl ⟨by rfl, ?_⟩) (by assumption) ?_
    rotate_left
    · (intro w hSw; (obtain ⟨⟨q0, q1, q2, q3, q4, q5, _, _, _, _, _, _⟩, ⟨y0, y1, y2, _, _, _⟩⟩ := And.intro (BlkN.cells hSw.s.a) hSw.s.b); (try dsimp only at q0 q1 q2 q3 q4 q5); go_simp; try with_reducible rfl)
    try simp only [List.getElem_toArray, List.getElem_cons_zero, List.getElem_cons_succ, Act.put, List.setIfInBounds_toArray, List.set_cons_zero, List.set_cons_succ]
    refine wpAnyH_take (i := 29) (oi := _) (v := ?_) rfl (by kernel_rfl) (by kernel_rfl) (by kernel_rfl) (fun _ _ _ h => h) (Or.inl ⟨by rfl, ?_⟩) (by assumption) ?_
    rotate_left
    · (intro w hSw; (obtain ⟨⟨q0, q1, q2, q3, q4, q5, _, _, _, _, _, _⟩, ⟨y0, y1, y2, _, _, _⟩⟩ := And.intro (BlkN.cells hSw.s.a) hSw.s.b); (try dsimp only at q0 q1 q2 q3 q4 q5); go_simp; try with_reducible rfl)
    try simp only [List.getElem_toArray, List.getElem_cons_zero, List.getElem_cons_succ, Act.put, List.setIfInBounds_toArray, List.set_cons_zero, List.set_cons_succ]
    refine wpAnyH_take (i := 31) (oi := _) (v := ?_) rfl (by kernel_rfl) (by kernel_rfl) (by kernel_rfl) (fun _ _ _ h => h) (Or.inl ⟨by rfl, ?_⟩) (by assumption) ?_
    rotate_left
    · (intro w hSw; (obtain ⟨⟨q0, q1, q2, q3, q4, q5, _, _, _, _, _, _⟩, ⟨y0, y1, y2, _, _, _⟩⟩ := And.intro (BlkN.cells hSw.s.a) hSw.s.b); (try dsimp only at q0 q1 q2 q3 q4 q5); go_simp; try with_reducible rfl)
    try simp only [List.getElem_toArray, List.getElem_cons_zero, List.getElem_cons_succ, Act.put, List.setIfInBounds_toArray, List.set_cons_zero, List.set_cons_succ]
    refine wpAnyH_ready (rs := [30]) (by kernel_rfl) (by simp) ?_
    refine AllReadyH.cons (o := _) rfl (fun K hK => ?_) AllReadyH.nil
    go_simp
    refine (CA.out _ hHeld).mono ?_
    rintro e w8 ⟨rfl, hb8⟩
    refine hK.out _ _ (hHeld.below hb8) (fun hHeld => ?_)
    clear hK K
    try simp only [List.getElem_toArray, List.getElem_cons_zero, List.getElem_cons_succ, Act.put, List.setIfInBounds_toArray, List.set_cons_zero, List.set_cons_succ]
    refine wpAnyH_ready (rs := [32]) (by kernel_rfl) (by simp) ?_
    refine AllReadyH.cons (o := _) rfl (fun K hK => ?_) AllReadyH.nil
    go_simp
    refine (CB.out _ hHeld).mono ?_
    rintro e w8 ⟨rfl, hb8⟩
    refine hK.out _ _ (hHeld.below hb8) (fun hHeld => ?_)
    clear hK K
    try simp only [List.getElem_toArray, List.getElem_cons_zero, List.getElem_cons_succ, Act.put, List.setIfInBounds_toArray, List.set_cons_zero, List.set_cons_succ]
    refine wpAnyH_take (i := 33) (oi := _) (v := ?_) rfl (by kernel_rfl) (by kernel_rfl) (by kernel_rfl) (fun _ _ _ h => h) (Or.inl ⟨by rfl, ?_⟩) (by assumption) ?_
    rotate_left
    · (intro w hSw; (obtain ⟨⟨q0, q1, q2, q3, q4, q5, _, _, _, _, _, _⟩, ⟨y0, y1, y2, _, _, _⟩⟩ := And.intro (BlkN.cells hSw.s.a) hSw.s.b); (try dsimp only at q0 q1 q2 q3 q4 q5); go_simp; (try rw [beq_self_eq_true]); try with_reducible rfl)
    try simp only [List.getElem_toArray, List.getElem_cons_zero, List.getElem_cons_succ, Act.put, List.setIfInBounds_toArray, List.set_cons_zero, List.set_cons_succ]
    refine wpAnyH_take (i := 34) (oi := _) (v := ?_) rfl (by kernel_rfl) (by kernel_rfl) (by kernel_rfl) (fun _ _ _ h => h) (Or.inl ⟨by rfl, ?_⟩) (by assumption) ?_
    rotate_left
    · (intro w hSw; (obtain ⟨⟨q0, q1, q2, q3, q4, q5, _, _, _, _, _, _⟩, ⟨y0, y1, y2, _, _, _⟩⟩ := And.intro (BlkN.cells hSw.s.a) hSw.s.b); (try dsimp only at q0 q1 q2 q3 q4 q5); go_simp; try with_reducible rfl)
    try simp only [List.getElem_toArray, List.getElem_cons_zero, List.getElem_cons_succ, Act.put, List.setIfInBounds_toArray, List.set_cons_zero, List.set_cons_succ]
    refine wpAnyH_take (i := 35) (oi := _) (v := ?_) rfl (by kernel_rfl) (by kernel_rfl) (by kernel_rfl) (fun _ _ _ h => h) (Or.inl ⟨by rfl, ?_⟩) (by assumption) ?_
    rotate_left
    · (intro w hSw; (obtain ⟨⟨q0, q1, q2, q3, q4, q5, _, _, _, _, _, _⟩, ⟨y0, y1, y2, _, _, _⟩⟩ := And.intro (BlkN.cells hSw.s.a) hSw.s.b); (try dsimp only at q0 q1 q2 q3 q4 q5); go_simp; try with_reducible rfl)
    try simp only [List.getElem_toArray, List.getElem_cons_zero, List.getElem_cons_succ, Act.put, List.setIfInBounds_toArray, List.set_cons_zero, List.set_cons_succ]
    refine wpAnyH_take (i := 36) (oi := _) (v := ?_) rfl (by kernel_rfl) (by kernel_rfl) (by kernel_rfl) (fun _ _ _ h => h) (Or.inl ⟨by rfl, ?_⟩) (by assumption) ?_
    rotate_left
    · (intro w hSw; (obtain ⟨⟨q0, q1, q2, q3, q4, q5, _, _, _, _, _, _⟩, ⟨y0, y1, y2, _, _, _⟩⟩ := And.intro (BlkN.cells hSw.s.a) hSw.s.b); (try dsimp only at q0 q1 q2 q3 q4 q5); go_simp; try with_reducible rfl)
    try simp only [List.getElem_toArray, List.getElem_cons_zero, List.getElem_cons_succ, Act.put, List.setIfInBounds_toArray, List.set_cons_zero, List.set_cons_succ]
    refine wpAnyH_take (i := 37) (oi := _) (v := ?_) rfl (by kernel_rfl) (by kernel_rfl) (by kernel_rfl) (fun _ _ _ h => h) (Or.inl ⟨by rfl, ?_⟩) (by assumption) ?_
    rotate_left
    · (intro w hSw; (obtain ⟨⟨q0, q1, q2, q3, q4, q5, _, _, _, _, _, _⟩, ⟨y0, y1, y2, _, _, _⟩⟩ := And.intro (BlkN.cells hSw.s.a) hSw.s.b); (try dsimp only at q0 q1 q2 q3 q4 q5); go_simp; try with_reducible rfl)
    try simp only [List.getElem_toArray, List.getElem_cons_zero, List.getElem_cons_succ, Act.put, List.setIfInBounds_toArray, List.set_cons_zero, List.set_cons_succ]
    refine wpAnyH_done (by kernel_rfl) ?_ _
    have HB9 := Lib.hid hHeld.s.bel
    clear hHeld
    go_wp2_with fail
    go_ret
    exact ⟨rfl, HB9.out⟩
end Go.Proofs.Ytpcnlojlfbgaoaa
