/-
  CONTRACTS of layer 7's laws' own awake and Good (and of layer 6's Cut): what each hands back; nothing that was there is written.
-/
import Derived.Test.YtipcanbeegladaaGreatDoorFmtW7
import Derived.Test.YtipcanbeegladaaGreatDoorCutA
namespace Go.Proofs.YtipcanbeegladaaGreatDoor
open Go.RowKit

/-- The statements' own Cut: of a value's text the first 100 bytes. -/
theorem lcut_any (k n : Int) (s : ByteArray) (w : World) (hs : s.size ≤ maxLen) :
    Calls Tryz.prog 10 #[cv k n s] w fun e w' => e = .returned (cv k n (cutB s 100)) ∧ Below w.heap.size w w' := by
  have C0 : Hid (∀ W, Calls Tryz.prog 4 #[.string s, .int .i64 100] W fun e w' => e = .returned (.string (cutB s 100)) ∧ W = w') := Lib.hid fun W => cut_any s 100 W hs (by omega)
  generalize cutB s 100 = t at *
  unfold cv
  go_enter Tryz.func10, Tryz.ntmps10
  go_wp2_with ((with_reducible refine (C0.out _).mono ?_); rintro e w' ⟨rfl, rfl⟩)
  refine bodyPost_ret (v := cv k n t) ?_ rfl ⟨rfl, ((Below.refl _ _).alloc (Nat.le_refl _) _).alloc (by simp) _⟩
  simp [results, Tryz.results10, go_sem, cv]
def awF : ByteArray := ⟨#[37, 53, 46, 50, 102, 124, 37, 45, 52, 100, 124, 37, 48, 52, 100, 124, 37, 120, 124, 37, 46, 50, 115, 124, 37, 99, 37, 37]⟩
def awR : ByteArray := ⟨#[45, 49, 46, 50, 51, 124, 55, 32, 32, 32, 124, 45, 48, 48, 55, 124, 102, 102, 124, 97, 98, 124, 120, 37]⟩
def awL : List Ce := [⟨1, -1239000, ⟨#[]⟩⟩, ⟨1, 7000000, ⟨#[]⟩⟩, ⟨1, -7000000, ⟨#[]⟩⟩, ⟨1, 255000000, ⟨#[]⟩⟩, ⟨2, 0, ⟨#[97, 98, 99]⟩⟩, ⟨2, 0, ⟨#[120, 121]⟩⟩]
set_option maxRecDepth 100000 in
theorem aw_print : printL awF.data.toList [] (awL.map Ce.va) = (awR.data.toList, 0) := by decide +kernel
def awCells : Array Value := #[.int .i64 1, .int .i64 (-1239000), .string ⟨#[]⟩, .int .i64 1, .int .i64 7000000, .string ⟨#[]⟩, .int .i64 1, .int .i64 (-7000000), .string ⟨#[]⟩, .int .i64 1, .int .i64 255000000, .string ⟨#[]⟩, .int .i64 2, .int .i64 0, .string ⟨#[97, 98, 99]⟩, .int .i64 2, .int .i64 0, .string ⟨#[120, 121]⟩]
theorem aw_at (w : World) : CeAt (w.alloc (.cells awCells 36)) (some ⟨w.heap.size, 0, none⟩) awL := by
  intro i hi
  have : i = 0 ∨ i = 1 ∨ i = 2 ∨ i = 3 ∨ i = 4 ∨ i = 5 := by have h : awL.length = 6 := rfl; omega
  rcases this with rfl | rfl | rfl | rfl | rfl | rfl <;> exact ⟨_, rfl, by simp, by simp [Addr.add, go_sem, awCells, awL], by simp [Addr.add, go_sem, awCells, awL], by simp [Addr.add, go_sem, awCells, awL]⟩
set_option maxRecDepth 100000 in
set_option maxHeartbeats 2000000 in
theorem fawake_any (w : World) (G : Gf w) :
    Calls Tryz.prog 9 #[] w fun e w' => e = .returned (.bool true) ∧ Below w.heap.size w w' := by
  have m1 := Lib.hid fun W => of_any (-1239000) W
  have i1 := fun W => cint_any 7 W (by omega)
  have i2 := fun W => cint_any (-7) W (by omega)
  have i3 := fun W => cint_any 255 W (by omega)
  rw [show clampI (7 * 1000000) = 7000000 from rfl] at i1
  rw [show clampI (-7 * 1000000) = -7000000 from rfl] at i2
  rw [show clampI (255 * 1000000) = 255000000 from rfl] at i3
  have I1 := Lib.hid i1
  have I2 := Lib.hid i2
  have I3 := Lib.hid i3
  have T1 := Lib.hid fun W => text_mk ⟨#[97, 98, 99]⟩ W (by decide)
  have T2 := Lib.hid fun W => text_mk ⟨#[120, 121]⟩ W (by decide)
  have P1 : Hid (∀ W p cap, CeAt W p awL → 6 ≤ cap → Gf W → Calls Tryz.prog 6 #[.string awF, .slice p 6 cap] W fun e w' => e = .returned (.tuple #[.string awR, .int .i64 0]) ∧ Below W.heap.size W w') := Lib.hid fun W p cap h hc G =>
    (fprint_any awF awR p cap awL W (by decide) (by decide) hc h (by intro c hc; simp [awL] at hc; rcases hc with rfl | rfl | rfl | rfl | rfl | rfl <;> exact ⟨by unfold OkN; constructor <;> decide, by decide⟩) G (by rw [aw_print])).mono fun e w' ⟨h1, h2⟩ => ⟨by rw [aw_print] at h1; exact h1, h2⟩
  have HG := Lib.hid G
  unfold awF awR at P1
  unfold cv at m1 I1 I2 I3 T1 T2
  clear i1 i2 i3 G
  go_enter Tryz.func9, Tryz.ntmps9
  go_wp2_with fail
  refine (m1.out _).mono ?_
  rintro e w1 ⟨rfl, hb1⟩
  have HB1 := Lib.hid hb1
  clear hb1
  go_wp2_with fail
  refine (I1.out _).mono ?_
  rintro e w2 ⟨rfl, hb2⟩
  have HB2 := Lib.hid (HB1.out.trans (hb2.mono HB1.out.size))
  clear hb2 HB1
  go_wp2_with fail
  refine (I2.out _).mono ?_
  rintro e w3 ⟨rfl, hb3⟩
  have HB3 := Lib.hid (HB2.out.trans (hb3.mono HB2.out.size))
  clear hb3 HB2
  go_wp2_with fail
  refine (I3.out _).mono ?_
  rintro e w4 ⟨rfl, hb4⟩
  have HB4 := Lib.hid (HB3.out.trans (hb4.mono HB3.out.size))
  clear hb4 HB3
  go_wp2_with fail
  refine (T1.out _).mono ?_
  rintro e w5 ⟨rfl, hb5⟩
  have HB5 := Lib.hid (HB4.out.trans (hb5.mono HB4.out.size))
  clear hb5 HB4
  go_wp2_with fail
  refine (T2.out _).mono ?_
  rintro e w6 ⟨rfl, hb6⟩
  have HB6 := Lib.hid (HB5.out.trans (hb6.mono HB5.out.size))
  clear hb6 HB5
  have HA := Lib.hid (aw_at w6)
  unfold awCells at HA
  go_wp2_with fail
  refine (P1.out _ _ _ HA.out (by omega) (HG.out.next (HB6.out.alloc HB6.out.size _))).mono ?_
  rintro e w7 ⟨rfl, hb7⟩
  have HB7 := Lib.hid ((HB6.out.alloc HB6.out.size (.cells awCells 36)).trans (hb7.mono (by simp; have := HB6.out.size; omega)))
  clear hb7 HB6 HA
  go_wp2_with fail
  go_ret
  exact ⟨rfl, HB7.out⟩

/-! Good. -/
def Ce.cut (c : Ce) : Ce := ⟨c.k, c.n, cutB c.s 100⟩
/-- Is it a value? -/
def goodB (c : Ce) : Bool := (decide (c.k = 0) && decide (c.n = 0) && decide (c.s.data.toList = [])) || (decide (c.k = 1) && (decide (-4611686018427387903 ≤ c.n) && decide (c.n ≤ 4611686018427387903)) && decide (c.s.data.toList = [])) || (decide (c.k = 2) && decide (c.n = 0)) || (decide (c.k = 3) && decide (looksL c.s.data.toList = (c.n, true)))
theorem goodB_iff (c : Ce) : goodB c = true ↔ GoodC c.k c.n c.s := by
  unfold goodB GoodC OkN
  simp only [Bool.or_eq_true, Bool.and_eq_true, decide_eq_true_eq]
  constructor
  · rintro (((⟨⟨h1, h2⟩, h3⟩ | ⟨⟨h1, h2⟩, h3⟩) | ⟨h1, h2⟩) | ⟨h1, h2⟩)
    · exact .inl ⟨h1, h2, h3⟩
    · exact .inr (.inl ⟨h1, h2, h3⟩)
    · exact .inr (.inr (.inl ⟨h1, h2⟩))
    · exact .inr (.inr (.inr ⟨h1, h2⟩))
  · rintro (⟨h1, h2, h3⟩ | ⟨h1, h2, h3⟩ | ⟨h1, h2⟩ | ⟨h1, h2⟩)
    · exact .inl (.inl (.inl ⟨⟨h1, h2⟩, h3⟩))
    · exact .inl (.inl (.inr ⟨⟨h1, h2⟩, h3⟩))
    · exact .inl (.inr ⟨h1, h2⟩)
    · exact .inr ⟨h1, h2⟩
theorem good_is (c : Ce) (w : World) (hs : c.s.size ≤ 1000000) :
    Calls Tryz.prog 11 #[cv c.k c.n c.s] w fun e w' => e = .returned (.bool (goodB c)) ∧ Below w.heap.size w w' := by
  obtain ⟨b, h1, h2⟩ := good_any c.k c.n c.s w hs
  have : b = goodB c := by rw [Bool.eq_iff_iff, h1, goodB_iff]
  rw [← this]; exact h2
def goodL (l : List Ce) (n : Nat) : List Ce := ((l.take n).map Ce.cut).filter goodB
theorem goodL_snoc {l : List Ce} {k : Nat} (h : k < l.length) : goodL l (k + 1) = goodL l k ++ (if goodB l[k].cut then [l[k].cut] else []) := by
  unfold goodL
  rw [List.take_succ_eq_append_getElem h, List.map_append, List.filter_append]
  congr 1
  simp only [List.map_cons, List.map_nil, List.filter_cons, List.filter_nil]
theorem goodL_len (l : List Ce) (k : Nat) : (goodL l k).length ≤ k := by
  unfold goodL
  refine Nat.le_trans (List.length_filter_le _ _) ?_
  rw [List.length_map, List.length_take]; omega
theorem goodL_mem {l : List Ce} {k : Nat} {c : Ce} (h : c ∈ goodL l k) : GoodC c.k c.n c.s ∧ c.s.size ≤ 100 := by
  unfold goodL at h
  obtain ⟨h1, h2⟩ := List.mem_filter.1 h
  refine ⟨(goodB_iff c).1 h2, ?_⟩
  obtain ⟨d, _, rfl⟩ := List.mem_map.1 h1
  exact cutB_size _ _
theorem looks_okN (l : List UInt8) : OkN (looksL l).1 := prefix_okN l
theorem good_okN {k n : Int} {s : ByteArray} (h : GoodC k n s) : OkN n := by
  rcases h with ⟨_, h, _⟩ | ⟨_, h, _⟩ | ⟨_, h⟩ | ⟨_, h⟩
  · rw [h]; unfold OkN; omega
  · exact h
  · rw [h]; unfold OkN; omega
  · have := looks_okN s.data.toList; rw [h] at this; exact this
theorem goodL_fit {l : List Ce} {k : Nat} : ∀ c ∈ goodL l k, OkN c.n ∧ c.s.size ≤ 1000 := fun c hc => ⟨good_okN (goodL_mem hc).1, by have := (goodL_mem hc).2; omega⟩
theorem va_small {c : Ce} (h : OkN c.n) (hs : c.s.size ≤ 100) : SmallV c.va := by
  constructor
  · show (strC c.k c.n c.s).data.toList.length ≤ 100
    rw [ba_sz]; unfold strC; split
    · rw [ba_mk]; have := text_len40 c.n h; omega
    · exact hs
  · have := numC_ok (kk := c.k) (s := c.s) h
    unfold OkN at this; show (numC c.k c.n c.s).natAbs < _; omega
theorem goodL_small {l : List Ce} {k : Nat} : ∀ v ∈ (goodL l k).map Ce.va, SmallV v := fun v hv => by
  obtain ⟨c, hc, rfl⟩ := List.mem_map.1 hv
  exact va_small (good_okN (goodL_mem hc).1) (goodL_mem hc).2
def ceRow (l : List Ce) : List Value := l.flatMap Ce.vals
theorem ceRow_snoc (l : List Ce) (t : Ce) : ceRow (l ++ [t]) = ceRow l ++ t.vals := by simp [ceRow]
theorem ceRow_get : ∀ (l : List Ce) (i j : Nat) (h : i < l.length), j < 3 → (ceRow l)[i * 3 + j]? = l[i].vals[j]?
  | [], _, _, h, _ => absurd h (by simp)
  | t :: l, 0, j, _, hj => by
    show (t.vals ++ ceRow l)[0 * 3 + j]? = t.vals[j]?
    rw [List.getElem?_append_left (by show 0 * 3 + j < 3; omega), show 0 * 3 + j = j from by omega]
  | t :: l, i + 1, j, h, hj => by
    show (t.vals ++ ceRow l)[(i + 1) * 3 + j]? = (l[i]'(by simpa using h)).vals[j]?
    rw [List.getElem?_append_right (by show 3 ≤ (i + 1) * 3 + j; omega), show (i + 1) * 3 + j - t.vals.length = i * 3 + j from by show (i + 1) * 3 + j - 3 = _; omega]
    exact ceRow_get l i j (by simpa using h) hj
theorem CeAt.own {w : World} {base g c : Nat} {l : List Ce} (h : w.ownsRow base 36 3 (.slice (some ⟨g, 0, none⟩) l.length c) l.length (ceRow l)) : CeAt w (some ⟨g, 0, none⟩) l := by
  intro i hi
  have e : ∀ j, (⟨g, 0, none⟩ : Addr).add j = ⟨g, j, none⟩ := fun j => by rw [Lib.add_plain, Nat.zero_add]
  refine ⟨_, rfl, ?_, ?_, ?_, ?_⟩
  · rcases h.2 with ⟨h1, _⟩ | ⟨g', cap, cur, h1, hB, hgg, _⟩
    · cases h1
    · injection h1 with h1 _ _
      injection h1 with h1
      injection h1 with h1
      subst h1
      exact (Array.getElem?_eq_some_iff.1 hgg).1
  · rw [e, h.cellAt (i * 3) (by omega), show i * 3 = i * 3 + 0 from rfl, ceRow_get l i 0 hi (by omega)]; rfl
  · rw [e, h.cellAt (i * 3 + 1) (by omega), ceRow_get l i 1 hi (by omega)]; rfl
  · rw [e, h.cellAt (i * 3 + 2) (by omega), ceRow_get l i 2 hi (by omega)]; rfl
theorem ce_new {b : Nat} (w : World) (t : Ce) (hb : w.heap.size = b) : ∀ (j : Nat) (u : Value), t.vals[j]? = some u → (w.alloc (.cells #[.int .i64 t.k, .int .i64 t.n, .string t.s] 36)).cell? (Addr.add ⟨b, 0, none⟩ j) = some u := by
  subst hb
  intro j u hj
  match j, hj with
  | 0, hj => simp [Ce.vals] at hj; subst hj; simp [Addr.add, go_sem]
  | 1, hj => simp [Ce.vals] at hj; subst hj; simp [Addr.add, go_sem]
  | 2, hj => simp [Ce.vals] at hj; subst hj; simp [Addr.add, go_sem]
  | n + 3, hj => simp [Ce.vals] at hj
theorem Tryz.infoCe : (Tryz.prog.info? 36).map (fun i => (i.zero, i.size, i.bytes)) = some (some (.agg #[.int .i64 0, .int .i64 0, .string ⟨#[]⟩]), 3, 32) := by kernel_rfl
theorem owns_cap {w : World} {base g c n : Nat} {e : TypeId} {k : Nat} {xs : List Value} (h : w.ownsRow base e k (.slice (some ⟨g, 0, none⟩) n c) n xs) : n ≤ c := by
  rcases h.2 with ⟨h1, _⟩ | ⟨g', cap, cur, h1, hB, hgg, h2, h3, h4, h5⟩
  · cases h1
  · injection h1 with _ _ h1
    omega
theorem own_succ {W : World} {base : Nat} {e : TypeId} {size : Nat} {v : Value} {k : Nat} {xs : List Value} (h : W.ownsRow base e size v (k + 1) xs) : ∃ g cap, v = .slice (some ⟨g, 0, none⟩) (k + 1) cap := by
  rcases h.2 with ⟨_, h0⟩ | ⟨g, cap, _, rfl, _⟩
  · omega
  · exact ⟨g, cap, rfl⟩
/-- What Good's loop has gathered. -/
structure GdR (l : List Ce) (w : World) (k : Nat) (v : Value) (wr : World) : Prop where
  row : wr.ownsRow w.heap.size 36 3 v (goodL l k).length (ceRow (goodL l k))
  below : Below w.heap.size w wr
def GdPost (gl : List Ce) (w : World) (e : Ending) (w' : World) : Prop :=
  ∃ g c, e = .returned (.slice (some ⟨g, 0, none⟩) gl.length c) ∧ CeAt w' (some ⟨g, 0, none⟩) gl ∧ gl.length ≤ c ∧ Below w.heap.size w w'
set_option maxRecDepth 100000 in
set_option maxHeartbeats 2000000 in
theorem goodrow_any (p : Option Addr) (cap : Nat) (l : List Ce) (n : Nat) (w : World) (hA : CeAt w p l) (hl : l.length ≤ maxLen) (hn : n ≤ 1000) (ht : ∀ t ∈ l, t.s.size ≤ maxLen) :
    Calls Tryz.prog 5 #[.slice p l.length cap, .int .i64 n] w (GdPost (goodL l n) w) := by
  obtain ⟨i0, hi, hz0, hz1, hz2⟩ := info_parts Tryz.infoCe
  have HA := Lib.hid hA
  have HT := Lib.hid ht
  have hl' := hl
  clear hA ht
  unfold maxLen at hl
  go_enter Tryz.func5, Tryz.ntmps5
  go_wp2_with fail
  go_loopw [5, 6] (fun v iv wr => ∃ (k g c m : Nat), k ≤ l.length ∧ k ≤ n ∧ m ≤ k ∧ iv = .int .i64 k ∧ v = .slice (some ⟨g, 0, none⟩) m c ∧ Hid (m = (goodL l k).length) ∧ Hid (GdR l w k (.slice (some ⟨g, 0, none⟩) m c) wr)) (fun _ iv _ => n - (intOf iv).toNat)
  case atStart => exact ⟨0, w.heap.size, 0, 0, by omega, by omega, by omega, rfl, rfl, Lib.hid rfl, Lib.hid ⟨World.ownsRow_made w #[] 0 (Nat.le_refl _) (by decide) rfl, (Below.refl _ _).alloc (Nat.le_refl _) _⟩⟩
  case round =>
    obtain ⟨k, g, c, m, hk, hkn, hmk, rfl, rfl, HM, HO⟩ := hrel
    by_cases hc : k < l.length ∧ k < n
    · obtain ⟨h1, h2⟩ := hc
      obtain ⟨a, rfl, hab, k0, k1, k2⟩ := HA.out k h1
      have c0 := (HO.out.below.cell (p := a.add (k * 3)) (add_lt hab _)).trans k0
      have c1 := (HO.out.below.cell (p := ⟨(a.add (k * 3)).block, (a.add (k * 3)).off + 1, none⟩) (add_lt hab _)).trans k1
      have c2 := (HO.out.below.cell (p := ⟨(a.add (k * 3)).block, (a.add (k * 3)).off + 2, none⟩) (add_lt hab _)).trans k2
      have CT := Lib.hid (fun w => lcut_any l[k].k l[k].n l[k].s w (HT.out _ (List.getElem_mem h1)))
      have hts := cutB_size l[k].s 100
      have CG := Lib.hid (fun w => good_is l[k].cut w (by show (cutB l[k].s 100).size ≤ 1000000; omega))
      have HS := Lib.hid (goodL_snoc h1)
      have hck : l[k].cut.k = l[k].k := rfl
      have hcn : l[k].cut.n = l[k].n := rfl
      have hcs : l[k].cut.s = cutB l[k].s 100 := rfl
      rw [hck, hcn, hcs] at CG
      unfold cv at CT CG
      obtain ⟨d, hd⟩ : ∃ d, l[k].cut = d := ⟨_, rfl⟩
      rw [hd] at HS CG hck hcn hcs
      rw [← hck, ← hcn, ← hcs] at CT CG
      rw [← hcs] at hts
      have HD := Lib.hid (And.intro hck hcn)
      have hs0 : (l[k].s) = l[k].s := rfl
      generalize hx0 : l[k].k = x0 at *
      generalize hx1 : l[k].n = x1 at *
      generalize hx2 : l[k].s = x2 at *
      obtain rfl : d.k = x0 := hck
      obtain rfl : d.n = x1 := hcn
      clear k0 k1 k2 hd hx0 hx1 hx2 hcs hs0 hab HD
      by_cases hg : goodB d = true
      · have HS : Hid (goodL l (k + 1) = goodL l k ++ [d]) := Lib.hid (by rw [HS.out, if_pos hg])
        rw [hg] at CG
        clear hg
        go_wp2_with fail
        refine (CT.out _).mono ?_
        rintro e w1 ⟨rfl, hb1⟩
        have HO1 : Hid (GdR l w k (.slice (some ⟨g, 0, none⟩) m c) w1) := Lib.hid ⟨row_next HO.out.row hb1, HO.out.below.trans (hb1.mono HO.out.below.size)⟩
        clear hb1 HO c0 c1 c2
        go_wp2_with fail
        refine (CG.out _).mono ?_
        rintro e w2 ⟨rfl, hb2⟩
        obtain ⟨hcc, hff⟩ := bcell hb2
        have hb2' := below_new hb2
        have HO2 : Hid (GdR l w k (.slice (some ⟨g, 0, none⟩) m c) w2) := Lib.hid ⟨row_next HO1.out.row hb2', HO1.out.below.trans (hb2'.mono HO1.out.below.size)⟩
        have hz : w1.heap.size + 1 ≤ w2.heap.size := by have := hb2.size; simp at this; omega
        have HB2 := Lib.hid hb2
        clear hb2 HO1 hb2'
        have hown := HO2.out.row
        rw [← HM.out] at hown
        have HOW := Lib.hid hown
        clear hown
        go_wp2_with (at_builtin; refine wpList_append_own _ rfl (.tmp 27) (.tmp 29) 22 rfl w.heap.size 36 i0 (.agg #[.int .i64 0, .int .i64 0, .string ⟨#[]⟩]) 3 32 Tryz.underlying22 hi hz0 hz1 hz2 rfl (by decide) (.slice (some ⟨g, 0, none⟩) m c) m (ceRow (goodL l k)) rfl (HOW.out.alloc _) ⟨w2.heap.size, 0, none⟩ 1 1 d.vals (by simp [go_sem]) rfl ?c1 ?c2 ?c3 ?c4 ?c5 ?_)
        case c1 => exact ce_new _ d (by simp)
        case c2 => simp [Ce.vals, Value.oneCell']
        case c3 => unfold maxLen; omega
        case c4 => omega
        case c5 => simp; have := HO2.out.below.size; omega
        intro v' w3 hown3 hgrow _
        obtain ⟨g', cap', rfl⟩ := own_succ hown3
        have HN : Hid (GdR l w (k + 1) (.slice (some ⟨g', 0, none⟩) (m + 1) cap') w3) := Lib.hid ⟨by
          rw [HS.out, ceRow_snoc, List.length_append, ← HM.out]; exact hown3, (HO2.out.below.alloc HO2.out.below.size _).grown hgrow (by simp; have := HO2.out.below.size; omega) (fun j hj => (HOW.out.lt j hj).1)⟩
        have HM' : Hid (m + 1 = (goodL l (k + 1)).length) := Lib.hid (by rw [HS.out, List.length_append, ← HM.out]; rfl)
        clear hown3 hgrow HO2 HOW HS HB2 hcc hff hz
        go_wp2_with fail
        go_roundw
        case rel => exact ⟨k + 1, g', cap', m + 1, by omega, by omega, by omega, by go_num, rfl, HM', HN⟩
        case measure => simp [intOf]; omega
      · have hg' : goodB d = false := by simpa using hg
        have HS : Hid (goodL l (k + 1) = goodL l k) := Lib.hid (by rw [HS.out, if_neg hg, List.append_nil])
        rw [hg'] at CG
        clear hg hg'
        go_wp2_with fail
        refine (CT.out _).mono ?_
        rintro e w1 ⟨rfl, hb1⟩
        have HO1 : Hid (GdR l w k (.slice (some ⟨g, 0, none⟩) m c) w1) := Lib.hid ⟨row_next HO.out.row hb1, HO.out.below.trans (hb1.mono HO.out.below.size)⟩
        clear hb1 HO c0 c1 c2
        go_wp2_with fail
        refine (CG.out _).mono ?_
        rintro e w2 ⟨rfl, hb2⟩
        have hb2' := below_new hb2
        have HN : Hid (GdR l w (k + 1) (.slice (some ⟨g, 0, none⟩) m c) w2) := Lib.hid ⟨by
          rw [HS.out]; exact row_next HO1.out.row hb2', HO1.out.below.trans (hb2'.mono HO1.out.below.size)⟩
        have HM' : Hid (m = (goodL l (k + 1)).length) := Lib.hid (by rw [HS.out]; exact HM.out)
        clear hb2 HO1 hb2'
        go_wp2_with fail
        go_roundw
        case rel => exact ⟨k + 1, g, c, m, by omega, by omega, by omega, by go_num, rfl, HM', HN⟩
        case measure => simp [intOf]; omega
    · have hL : goodL l n = goodL l k := by
        unfold goodL
        by_cases h : k = n
        · rw [h]
        · rw [List.take_of_length_le (by omega : l.length ≤ n), List.take_of_length_le (by omega : l.length ≤ k)]
      have HE : Hid (GdPost (goodL l n) w (.returned (.slice (some ⟨g, 0, none⟩) m c)) wr) := Lib.hid (by
        have hrow := HO.out.row
        rw [HM.out] at hrow ⊢
        refine ⟨g, c, ?_, ?_, ?_, HO.out.below⟩
        · rw [hL]
        · rw [hL]; exact CeAt.own hrow
        · rw [hL]; exact owns_cap hrow)
      clear hL HO HM
      go_wp2_with fail
      all_goals
        go_ret
        exact HE.out
end Go.Proofs.YtipcanbeegladaaGreatDoor
