/-
  THE WALK of ArrayParts.
-/
import Derived.Test.YtohlnpopkaoljaaDoorArMd
import Derived.Test.YtohlnpopkaoljaaDoorArAllW
import Derived.Test.YtohlnpopkaoljaaDoorArAllS
import Derived.Lib.SlicesS
namespace Go.Proofs.YtohlnpopkaoljaaDoor
open Go.RowKit Go.Maps Go.Shelf
attribute [local go_sem] Oper.semAt_some

theorem AA.all {w0 W : World} {b : Nat} {P : List Pr} (h : AA w0 W b P) :
    Calls Tryd.prog 7 #[.pointer (some ⟨b, 0, none⟩)] W fun e w' => ∃ L, cont L = P ∧ AlPost L W e w' := by
  obtain ⟨mm, L, h1, h2, _⟩ := h.af
  exact (all_any h1).mono fun _ _ h3 => ⟨L, h2, h3⟩
theorem row_cell {w : World} {B n : Nat} {e : TypeId} {v : Value} {l : List ByteArray} (h : w.ownsRow B e 1 v n (l.map Value.string)) (hn : n = l.length) : ∃ p c, v = .slice p n c ∧ ∀ (k : Nat) (hk : k < l.length), ∃ g, p = some ⟨g, 0, none⟩ ∧ g < w.heap.size ∧ B ≤ g ∧ w.cell? ⟨g, k, none⟩ = some (.string l[k]) := by
  rcases h.2 with ⟨rfl, h0⟩ | ⟨g, cap, cur, rfl, hB, _⟩
  · exact ⟨none, 0, by rw [h0], fun k hk => by omega⟩
  · refine ⟨_, _, rfl, fun k hk => ⟨g, rfl, (h.lt g rfl).2, hB, ?_⟩⟩
    have := h.cellAt k (by omega)
    rw [this, List.getElem?_map, List.getElem?_eq_getElem hk]
    rfl
theorem keys_of {L : List En} {P : List Pr} {xs : List Q6} (h : cont L = P) (hx : xs.map Q6.e = L) : xs.map (fun t => t.e.key) = P.map Prod.fst := by
  subst h hx
  simp [cont]
theorem sizes_of {L : List En} {P : List Pr} {xs : List Q6} (h : cont L = P) (hx : xs.map Q6.e = L) (hP : ∀ p ∈ P, p.1.size ≤ 40 ∧ p.2.s.size ≤ 100) : ∀ t ∈ xs, t.e.key.size ≤ 1000000 ∧ t.e.c.s.size ≤ 1000000 := by
  subst h hx
  intro t ht
  have h : t.e.key.size ≤ 40 ∧ t.e.c.s.size ≤ 100 := hP (t.e.key, t.e.c) (by simp only [cont, List.mem_map]; exact ⟨t.e, ⟨t, ht, rfl⟩, rfl⟩)
  omega
theorem tab_at {B : Nat} {w w1 : World} (htab : Lib.TabBelow Tryd.prog B w "internal/strconv.uint64pow10" .u64 Lib.pow10Tab) (hb : Below B w w1) (hB : B ≤ w1.heap.size) : Lib.TabBelow Tryd.prog w1.heap.size w1 "internal/strconv.uint64pow10" .u64 Lib.pow10Tab :=
  fun w' h' => htab w' (hb.trans (h'.mono hB))
theorem add_blockA (a : Addr) (n : Nat) : (a.add n).block = a.block := by unfold Addr.add; split <;> rfl
theorem ac_below {w w' : World} {q : Option Addr} {l : List Ac} (h : AcAt w q l) (hb : Below w.heap.size w w') : AcAt w' q l := fun i hi => by
  obtain ⟨a, h1, h2, h3, h4, h5, h6, h7⟩ := h i hi
  have hl : (a.add (i * 5)).block < w.heap.size := by rw [add_blockA]; exact h2
  exact ⟨a, h1, Nat.lt_of_lt_of_le h2 hb.size, (hb.cell (p := a.add (i * 5)) hl).trans h3, (hb.cell (p := ⟨(a.add (i * 5)).block, (a.add (i * 5)).off + 1, none⟩) hl).trans h4, (hb.cell (p := ⟨(a.add (i * 5)).block, (a.add (i * 5)).off + 2, none⟩) hl).trans h5,
    (hb.cell (p := ⟨(a.add (i * 5)).block, (a.add (i * 5)).off + 3, none⟩) hl).trans h6, (hb.cell (p := ⟨(a.add (i * 5)).block, (a.add (i * 5)).off + 4, none⟩) hl).trans h7⟩
set_option maxRecDepth 100000 in
set_option maxHeartbeats 8000000 in
theorem parts_walk (q : Option Addr) (cap : Nat) (l : List Ac) (most : Int) (w : World) (hA : AcAt w q l) (hl : l.length ≤ maxLen) (ht : ∀ t ∈ l, t.ok) (htab : Lib.TabBelow Tryd.prog w.heap.size w "internal/strconv.uint64pow10" .u64 Lib.pow10Tab) :
    Calls Tryd.prog 3 #[.slice q l.length cap, .int .i64 most] w fun e w' => e = .returned (.bool true) ∧ Below w.heap.size w w' := by
  refine (callsIn_wide (n := 6)).1 ?_
  refine callsIn_of_wp_marks Tryd.func3 rfl trivial ?_ rfl
  simp only [Tryd.ntmps3, List.size_toArray, List.length_cons, List.length_nil, Nat.reduceAdd, Nat.reduceSub, Array.replicate_succ, Array.replicate_zero, List.push_toArray, List.append_toArray, List.nil_append, List.cons_append]
  have t1 : Fence.wide.fn 4 := trivial
  have t2 : Fence.wide.fn 5 := trivial
  have t3 : Fence.wide.fn 6 := trivial
  have t4 : Fence.wide.fn 7 := trivial
  have HTAB := Lib.hid htab
  have HAc := Lib.hid hA
  have HOK := Lib.hid ht
  clear htab hA ht
  have hba : Below w.heap.size w ((w.alloc (.cells #[.int .i64 most] 3)).alloc (.cells #[.bool false] 4)) := ((Below.refl _ _).alloc (Nat.le_refl _) _).alloc (by simp) _
  have HBA := Lib.hid hba
  clear hba
  gi_wp2_with fail
  refine (callsIn_wide.2 (aawake_any _ (tab_at HTAB.out HBA.out HBA.out.size))).mono ?_
  rintro e w1 ⟨rfl, hb1⟩
  have HB1 := Lib.hid (HBA.out.trans (hb1.mono HBA.out.size))
  have k1 : w1.cell? ⟨w.heap.size, 0, none⟩ = some (.int .i64 most) := (hb1.cell (p := ⟨w.heap.size, 0, none⟩) (by simp; omega)).trans (by simp [go_sem])
  have k2 : w1.cell? ⟨w.heap.size + 1, 0, none⟩ = some (.bool false) := (hb1.cell (p := ⟨w.heap.size + 1, 0, none⟩) (by simp)).trans (by simp [go_sem])
  have f2 : w1.frozen? ⟨w.heap.size + 1, 0, none⟩ = false := (hb1.frozen (p := ⟨w.heap.size + 1, 0, none⟩) (by simp)).trans (by simp [go_sem])
  have hz1 : w.heap.size + 1 < w1.heap.size := World.block_lt_of_cell? _ _ k2
  clear hb1 HBA
  have CM := Lib.hid (made_any q cap l w1 (ac_below HAc.out HB1.out) hl HOK.out)
  clear HAc HOK hl
  gi_wp2_with fail
  refine (callsIn_wide.2 CM.out).mono ?_
  rintro e w2 ⟨b, P, rfl, hM⟩
  have HM := Lib.hid hM
  have HB2 := Lib.hid (HB1.out.trans (hM.aa.bel.mono HB1.out.size))
  have hz2 := hM.aa.bel.size
  have k1' : w2.cell? ⟨w.heap.size, 0, none⟩ = some (.int .i64 most) := (hM.aa.bel.cell (p := ⟨w.heap.size, 0, none⟩) (by show w.heap.size < _; omega)).trans k1
  have k2' : w2.cell? ⟨w.heap.size + 1, 0, none⟩ = some (.bool false) := (hM.aa.bel.cell (p := ⟨w.heap.size + 1, 0, none⟩) hz1).trans k2
  have f2' : w2.frozen? ⟨w.heap.size + 1, 0, none⟩ = false := (hM.aa.bel.frozen (p := ⟨w.heap.size + 1, 0, none⟩) hz1).trans f2
  have CK := Lib.hid (hM.aa.keys (fun p hp => by have := (hM.key p hp).1; omega))
  clear hM CM HB1 k1 k2 f2
  gi_wp2_with fail
  refine (callsIn_wide.2 CK.out).mono ?_
  rintro e w3 ⟨v, rfl, hro, hb3⟩
  obtain ⟨ga, gc, rfl, hks⟩ := row_cell hro rfl
  have HB3 := Lib.hid (HB2.out.trans (hb3.mono HB2.out.size))
  have HM3 := Lib.hid (HM.out.next hb3)
  have hz3 := hb3.size
  have j1 : w3.cell? ⟨w.heap.size, 0, none⟩ = some (.int .i64 most) := (hb3.cell (p := ⟨w.heap.size, 0, none⟩) (by show w.heap.size < _; omega)).trans k1'
  have j2 : w3.cell? ⟨w.heap.size + 1, 0, none⟩ = some (.bool false) := (hb3.cell (p := ⟨w.heap.size + 1, 0, none⟩) (by show w.heap.size + 1 < _; omega)).trans k2'
  have j3 : w3.frozen? ⟨w.heap.size + 1, 0, none⟩ = false := (hb3.frozen (p := ⟨w.heap.size + 1, 0, none⟩) (by show w.heap.size + 1 < _; omega)).trans f2'
  have HKS := Lib.hid hks
  have hkl : (P.map Prod.fst).length ≤ 40 := by rw [List.length_map]; exact HM.out.few
  obtain ⟨ks, hke⟩ : ∃ ks, ks = P.map Prod.fst := ⟨_, rfl⟩
  rw [← hke] at HKS hkl ⊢
  have HKE := Lib.hid hke
  clear hb3 hro hks hke k1' k2' f2' CK HB2 HM
  obtain ⟨W4, hW4⟩ : ∃ W4, W4 = (w3.alloc (.cells #[.slice ga ks.length gc] 26)).alloc (.cells #[.int .i64 0] 3) := ⟨_, rfl⟩
  have hb4 : Below w3.heap.size w3 W4 := by rw [hW4]; exact ((Below.refl _ _).alloc (Nat.le_refl _) _).alloc (by simp) _
  have hz4 : W4.heap.size = w3.heap.size + 2 := by rw [hW4]; simp
  have p3 : W4.cell? ⟨w3.heap.size, 0, none⟩ = some (.slice ga ks.length gc) := by rw [hW4]; simp [go_sem]
  have p4 : W4.cell? ⟨w3.heap.size + 1, 0, none⟩ = some (.int .i64 0) := by rw [hW4]; simp [go_sem]
  have p5 : W4.frozen? ⟨w3.heap.size + 1, 0, none⟩ = false := by rw [hW4]; simp [go_sem]
  have CA := Lib.hid (HM3.out.aa.next hb4).all
  gi_wp2_with fail
  rw [← hW4]
  refine (callsIn_wide.2 CA.out).mono ?_
  rintro e w5 ⟨L, hcl, bl, g, c, Cx, xs, rfl, hxe, hcol, hbl, hb5⟩
  have HB5 := Lib.hid ((HB3.out.trans (hb4.mono HB3.out.size)).trans (hb5.mono (Nat.le_trans HB3.out.size hb4.size)))
  have hgb : W4.heap.size ≤ g ∧ g < w5.heap.size := hcol.row.lt g rfl
  have hb35 : Below w3.heap.size w3 w5 := hb4.trans (hb5.mono hb4.size)
  have HKX : Hid (xs.map (fun t => t.e.key) = ks) := Lib.hid (by rw [keys_of hcl hxe, HKE.out])
  have hxl : xs.length = ks.length := by rw [← HKX.out, List.length_map]
  have hxs := sizes_of hcl hxe (fun p hp => HM3.out.key p hp)
  have r1 : w5.cell? ⟨w.heap.size, 0, none⟩ = some (.int .i64 most) := (hb35.cell (p := ⟨w.heap.size, 0, none⟩) (by show w.heap.size < _; omega)).trans j1
  have r2 : w5.cell? ⟨w.heap.size + 1, 0, none⟩ = some (.bool false) := (hb35.cell (p := ⟨w.heap.size + 1, 0, none⟩) (by show w.heap.size + 1 < _; omega)).trans j2
  have r3 : w5.frozen? ⟨w.heap.size + 1, 0, none⟩ = false := (hb35.frozen (p := ⟨w.heap.size + 1, 0, none⟩) (by show w.heap.size + 1 < _; omega)).trans j3
  have r4 : w5.cell? ⟨w3.heap.size, 0, none⟩ = some (.slice ga ks.length gc) := (hb5.cell (p := ⟨w3.heap.size, 0, none⟩) (by show w3.heap.size < _; omega)).trans p3
  have r5 : w5.cell? ⟨w3.heap.size + 1, 0, none⟩ = some (.int .i64 0) := (hb5.cell (p := ⟨w3.heap.size + 1, 0, none⟩) (by show w3.heap.size + 1 < _; omega)).trans p4
  have r6 : w5.frozen? ⟨w3.heap.size + 1, 0, none⟩ = false := (hb5.frozen (p := ⟨w3.heap.size + 1, 0, none⟩) (by show w3.heap.size + 1 < _; omega)).trans p5
  have HKC : Hid (∀ (k : Nat) (hk : k < ks.length), ∃ g, ga = some ⟨g, 0, none⟩ ∧ g < w3.heap.size ∧ w5.cell? ⟨g, k, none⟩ = some (.string ks[k])) := Lib.hid (fun k hk => by
    obtain ⟨g, h1, h2, _, h3⟩ := HKS.out k hk
    exact ⟨g, h1, h2, (hb35.cell (p := ⟨g, k, none⟩) h2).trans h3⟩)
  have hz5 : W4.heap.size ≤ w5.heap.size := hb5.size
  have hbl5 : bl < w5.heap.size := World.block_lt_of_cell? _ _ hcol.var
  clear hb4 hb5 hb35 hW4 p3 p4 p5 j1 j2 j3 CA HB3 HKS HM3 hcl hxe HKE
  generalize hbk : w3.heap.size = bk at *
  dsimp only
  gi_wp2_with fail
  have hbn5 : bk + 1 < w5.heap.size := by omega
  have hbkn : bk ≠ bk + 1 := by omega
  have hwn : w.heap.size ≠ bk + 1 ∧ w.heap.size + 1 ≠ bk + 1 := by omega
  have HZ := Lib.hid (And.intro hz4 (And.intro hbl hgb.1))
  have HW := Lib.hid (And.intro hz1 (And.intro hz2 hz3))
  refine wpIn_rangeC (F := Fence.wide) rfl (by omega) (gf := 21) (lb := #[.pointer (some ⟨bl, 0, none⟩)]) rfl trivial (enters_of Tryd.func21 (by kernel_rfl) rfl)
    (all_seq _ (by omega) w5 hcol (by omega) hxs) (Below.refl _ _) (fun _ => rfl) (fun k => k = bk + 1) (fun k hk hc => by
      have h2 := HZ.out
      rcases hk with h | h <;> omega) (fun k hk => by
      rcases hk with rfl | rfl
      · exact hbl5
      · exact hgb.2) (fun k hc => by subst hc; exact hbn5)
    (fun (pre : List Q6) C W => (C = fun k => k = bk + 1) ∧ W.cell? ⟨bk + 1, 0, none⟩ = some (.int .i64 (pre.length : Int)) ∧ W.frozen? ⟨bk + 1, 0, none⟩ = false ∧ ((pre.length : Int) ≤ most ∨ pre.length = 0))
    (fun cd pre C W => cd = .exit 0 ∧ (C = fun k => k = bk + 1) ∧ ∃ n : Nat, pre.length = n + 1 ∧ W.cell? ⟨bk + 1, 0, none⟩ = some (.int .i64 (n : Int)) ∧ most ≤ (n : Int) ∧ ((n : Int) ≤ most ∨ n = 0)) ?hI ?hIx ⟨rfl, r5, r6, .inr rfl⟩ ?a1 ?assign ?body ?done ?stop
  case hI =>
    rintro pre C A B ⟨rfl, h1, h2, h3⟩ hs
    exact ⟨rfl, (hs.cell (p := ⟨bk + 1, 0, none⟩) rfl).trans h1, (hs.frozen (p := ⟨bk + 1, 0, none⟩) rfl).trans h2, h3⟩
  case hIx =>
    rintro cd pre C A B ⟨hcd, rfl, n, h0, h1, h2⟩ hs
    exact ⟨hcd, rfl, n, h0, (hs.cell (p := ⟨bk + 1, 0, none⟩) rfl).trans h1, h2⟩
  case assign =>
    intro l' x W K hK
    simp only [q6e]
    gi_wp2
    exact hK
  case stop =>
    rintro D cd pre C W hpre ⟨rfl, rfl, n, hn, hn0, hm1, hm2⟩ hcm hf rfl hD hsz
    have hfin : (n : Int) = min (max most 0) (ks.length : Int) := by
      have := hpre.length_le
      omega
    have m0 : W.cell? ⟨w.heap.size, 0, none⟩ = some (.int .i64 most) := (hcm.cell (a := ⟨w.heap.size, 0, none⟩) (by have := HB5.out.size; have := HW.out; show w.heap.size < _; omega) hwn.1).trans r1
    have q0 : W.cell? ⟨w.heap.size + 1, 0, none⟩ = some (.bool false) := (hcm.cell (a := ⟨w.heap.size + 1, 0, none⟩) (by have := HB5.out.size; have := HW.out; show w.heap.size + 1 < _; omega) hwn.2).trans r2
    have qf : W.frozen? ⟨w.heap.size + 1, 0, none⟩ = false := (hcm.frozen (a := ⟨w.heap.size + 1, 0, none⟩) (by have := HB5.out.size; have := HW.out; show w.heap.size + 1 < _; omega) hwn.2).trans r3
    have k0 : W.cell? ⟨bk, 0, none⟩ = some (.slice ga ks.length gc) := (hcm.cell (a := ⟨bk, 0, none⟩) (by show bk < _; omega) hbkn).trans r4
    have HB6 := Lib.hid (HB5.out.trans (hcm.below (n := w.heap.size) (by have := HB5.out.size; omega) (fun k hk => by have := HW.out; omega)))
    have HD := Lib.hid hD
    have hlt0 : w.heap.size < W.heap.size := World.block_lt_of_cell? _ _ m0
    have hlt1 : w.heap.size + 1 < W.heap.size := World.block_lt_of_cell? _ _ q0
    have hlt2 : bk < W.heap.size := World.block_lt_of_cell? _ _ k0
    have hlt3 : bk + 1 < W.heap.size := World.block_lt_of_cell? _ _ hn0
    have HSZ := Lib.hid hsz
    clear hcm hf hD hsz r1 r2 r3 r4 r5 r6 hcol HKC
    gi_wp2_with fail
    refine (callsIn_wide.2 (aawake_any _ (tab_at HTAB.out HB6.out HB6.out.size))).mono ?_
    rintro e w7 ⟨rfl, hb7⟩
    have m7 : w7.cell? ⟨w.heap.size, 0, none⟩ = some (.int .i64 most) := (hb7.cell (p := ⟨w.heap.size, 0, none⟩) hlt0).trans m0
    have q7 : w7.cell? ⟨w.heap.size + 1, 0, none⟩ = some (.bool false) := (hb7.cell (p := ⟨w.heap.size + 1, 0, none⟩) hlt1).trans q0
    have g7 : w7.frozen? ⟨w.heap.size + 1, 0, none⟩ = false := (hb7.frozen (p := ⟨w.heap.size + 1, 0, none⟩) hlt1).trans qf
    have k7 : w7.cell? ⟨bk, 0, none⟩ = some (.slice ga ks.length gc) := (hb7.cell (p := ⟨bk, 0, none⟩) hlt2).trans k0
    have n7 : w7.cell? ⟨bk + 1, 0, none⟩ = some (.int .i64 (n : Int)) := (hb7.cell (p := ⟨bk + 1, 0, none⟩) hlt3).trans hn0
    have HB7 := Lib.hid (HB6.out.trans (hb7.mono HB6.out.size))
    have HD7 := Lib.hid ((hb7.block w5.heap.size (by have := HSZ.out; omega)).trans HD.out)
    have hz7 : W.heap.size ≤ w7.heap.size := hb7.size
    clear hb7 m0 q0 qf k0 hn0 HD HB6
    dsimp only
    gi_wp2_with fail
    obtain ⟨Wz, hWz⟩ : ∃ Wz, Wz = w7.setCell ⟨w.heap.size + 1, 0, none⟩ (.bool true) := ⟨_, rfl⟩
    have eo : Wz.heap[w5.heap.size]? = w7.heap[w5.heap.size]? := by rw [hWz]; exact Below.heap_setCell w7 ⟨w.heap.size + 1, 0, none⟩ _ _ (by have := HW.out; show w5.heap.size ≠ w.heap.size + 1; omega)
    have crz : Wz.cell? ⟨w.heap.size + 1, 0, none⟩ = some (.bool true) := by rw [hWz]; exact World.cell?_setCell_same' _ _ _ (by rw [q7]; rfl)
    have hbz : Below w.heap.size w Wz := by rw [hWz]; exact HB7.out.setCell (p := ⟨w.heap.size + 1, 0, none⟩) (by show w.heap.size ≤ w.heap.size + 1; omega) _
    rw [← hWz]
    have F1 : Wz.heap[w5.heap.size]? = some (.deferred (some [])) := eo.trans HD7.out
    have cf : (Wz.putObj w5.heap.size (.deferred none)).cell? ⟨w.heap.size + 1, 0, none⟩ = some (.bool true) := by
      rw [← crz]
      exact World.cell?_of_block (a := ⟨w.heap.size + 1, 0, none⟩) (World.putObj_heap_other (by have := HW.out; show w.heap.size + 1 ≠ w5.heap.size; omega))
    have bf : Below w.heap.size w (Wz.putObj w5.heap.size (.deferred none)) :=
      ⟨hbz.os, hbz.tape, hbz.output, by simp only [World.putObj_size]; exact hbz.size, fun k hk => (World.putObj_heap_other (by have := HB5.out.size; omega)).trans (hbz.block k hk)⟩
    clear hWz eo
    refine ⟨by simp, .inl ⟨_, _, rfl, run_takeDeferred F1, ?_⟩⟩
    refine ⟨.bool true, ?_, rfl, bf⟩
    simp [results, Tryd.results3, go_sem, cf]
  case done =>
    rintro D ys C W rfl ⟨rfl, hn0, hnf, hle⟩ hcm hf rfl hD hsz
    rw [hxl] at hn0 hle
    have hfb : (((ks.length : Nat) : Int) == min (max most 0) (ks.length : Int)) = true := by rw [beq_iff_eq]; omega
    have m0 : W.cell? ⟨w.heap.size, 0, none⟩ = some (.int .i64 most) := (hcm.cell (a := ⟨w.heap.size, 0, none⟩) (by have := HB5.out.size; have := HW.out; show w.heap.size < _; omega) hwn.1).trans r1
    have q0 : W.cell? ⟨w.heap.size + 1, 0, none⟩ = some (.bool false) := (hcm.cell (a := ⟨w.heap.size + 1, 0, none⟩) (by have := HB5.out.size; have := HW.out; show w.heap.size + 1 < _; omega) hwn.2).trans r2
    have qf : W.frozen? ⟨w.heap.size + 1, 0, none⟩ = false := (hcm.frozen (a := ⟨w.heap.size + 1, 0, none⟩) (by have := HB5.out.size; have := HW.out; show w.heap.size + 1 < _; omega) hwn.2).trans r3
    have k0 : W.cell? ⟨bk, 0, none⟩ = some (.slice ga ks.length gc) := (hcm.cell (a := ⟨bk, 0, none⟩) (by show bk < _; omega) hbkn).trans r4
    have HB6 := Lib.hid (HB5.out.trans (hcm.below (n := w.heap.size) (by have := HB5.out.size; omega) (fun k hk => by have := HW.out; omega)))
    have HD := Lib.hid hD
    have hlt0 : w.heap.size < W.heap.size := World.block_lt_of_cell? _ _ m0
    have hlt1 : w.heap.size + 1 < W.heap.size := World.block_lt_of_cell? _ _ q0
    have hlt2 : bk < W.heap.size := World.block_lt_of_cell? _ _ k0
    have hlt3 : bk + 1 < W.heap.size := World.block_lt_of_cell? _ _ hn0
    have HSZ := Lib.hid hsz
    clear hcm hf hD hsz r1 r2 r3 r4 r5 r6 hcol HKC
    gi_wp2_with fail
    refine (callsIn_wide.2 (aawake_any _ (tab_at HTAB.out HB6.out HB6.out.size))).mono ?_
    rintro e w7 ⟨rfl, hb7⟩
    have m7 : w7.cell? ⟨w.heap.size, 0, none⟩ = some (.int .i64 most) := (hb7.cell (p := ⟨w.heap.size, 0, none⟩) hlt0).trans m0
    have q7 : w7.cell? ⟨w.heap.size + 1, 0, none⟩ = some (.bool false) := (hb7.cell (p := ⟨w.heap.size + 1, 0, none⟩) hlt1).trans q0
    have g7 : w7.frozen? ⟨w.heap.size + 1, 0, none⟩ = false := (hb7.frozen (p := ⟨w.heap.size + 1, 0, none⟩) hlt1).trans qf
    have k7 : w7.cell? ⟨bk, 0, none⟩ = some (.slice ga ks.length gc) := (hb7.cell (p := ⟨bk, 0, none⟩) hlt2).trans k0
    have n7 : w7.cell? ⟨bk + 1, 0, none⟩ = some (.int .i64 (ks.length : Int)) := (hb7.cell (p := ⟨bk + 1, 0, none⟩) hlt3).trans hn0
    have HB7 := Lib.hid (HB6.out.trans (hb7.mono HB6.out.size))
    have HD7 := Lib.hid ((hb7.block w5.heap.size (by have := HSZ.out; omega)).trans HD.out)
    have hz7 : W.heap.size ≤ w7.heap.size := hb7.size
    clear hb7 m0 q0 qf k0 hn0 HD HB6
    dsimp only
    gi_wp2_with fail
    obtain ⟨Wz, hWz⟩ : ∃ Wz, Wz = w7.setCell ⟨w.heap.size + 1, 0, none⟩ (.bool true) := ⟨_, rfl⟩
    have eo : Wz.heap[w5.heap.size]? = w7.heap[w5.heap.size]? := by rw [hWz]; exact Below.heap_setCell w7 ⟨w.heap.size + 1, 0, none⟩ _ _ (by have := HW.out; show w5.heap.size ≠ w.heap.size + 1; omega)
    have crz : Wz.cell? ⟨w.heap.size + 1, 0, none⟩ = some (.bool true) := by rw [hWz]; exact World.cell?_setCell_same' _ _ _ (by rw [q7]; rfl)
    have hbz : Below w.heap.size w Wz := by rw [hWz]; exact HB7.out.setCell (p := ⟨w.heap.size + 1, 0, none⟩) (by show w.heap.size ≤ w.heap.size + 1; omega) _
    rw [← hWz]
    have F1 : Wz.heap[w5.heap.size]? = some (.deferred (some [])) := eo.trans HD7.out
    have cf : (Wz.putObj w5.heap.size (.deferred none)).cell? ⟨w.heap.size + 1, 0, none⟩ = some (.bool true) := by
      rw [← crz]
      exact World.cell?_of_block (a := ⟨w.heap.size + 1, 0, none⟩) (World.putObj_heap_other (by have := HW.out; show w.heap.size + 1 ≠ w5.heap.size; omega))
    have bf : Below w.heap.size w (Wz.putObj w5.heap.size (.deferred none)) :=
      ⟨hbz.os, hbz.tape, hbz.output, by simp only [World.putObj_size]; exact hbz.size, fun k hk => (World.putObj_heap_other (by have := HB5.out.size; omega)).trans (hbz.block k hk)⟩
    clear hWz eo
    refine ⟨by simp, .inl ⟨_, _, rfl, run_takeDeferred F1, ?_⟩⟩
    refine ⟨.bool true, ?_, rfl, bf⟩
    simp [results, Tryd.results3, go_sem, cf]
  case body =>
    rintro l' pre x C W ⟨rfl, hn0, hnf, hle⟩ hcm hf hlen hsp
    have m0 : W.cell? ⟨w.heap.size, 0, none⟩ = some (.int .i64 most) := (hcm.cell (a := ⟨w.heap.size, 0, none⟩) (by have := HB5.out.size; have := HW.out; show w.heap.size < _; omega) hwn.1).trans r1
    have k0 : W.cell? ⟨bk, 0, none⟩ = some (.slice ga ks.length gc) := (hcm.cell (a := ⟨bk, 0, none⟩) (by show bk < _; omega) hbkn).trans r4
    have hpl : pre.length < xs.length := by
      have := hsp.length_le
      simp at this
      omega
    have hx : xs[pre.length] = x := by
      obtain ⟨t, ht⟩ := hsp
      have : xs[pre.length]? = some x := by rw [← ht]; simp
      rw [List.getElem?_eq_getElem hpl] at this
      exact Option.some.inj this
    obtain ⟨gk, rfl, hg3, hck⟩ := HKC.out pre.length (by omega)
    have hkx : ks[pre.length]'(by omega) = x.e.key := by
      subst hx
      have h := HKX.out
      subst h
      simp
    rw [hkx] at hck
    have c0 : W.cell? ⟨gk, pre.length, none⟩ = some (.string x.e.key) := (hcm.cell (a := ⟨gk, pre.length, none⟩) (by have := HZ.out; show gk < _; omega) (by show gk ≠ bk + 1; omega)).trans hck
    have hbw : bk + 1 < W.heap.size := World.block_lt_of_cell? _ _ hn0
    generalize x.e.key = ky at *
    have HN0 := Lib.hid hn0
    have HNF := Lib.hid hnf
    by_cases hb : most ≤ (pre.length : Int)
    · have HLE := Lib.hid hle
      gi_wp2_with fail
      exact ⟨_, fun k hk => Or.inl hk, fun k hk => by subst hk; exact hbw, Came.refl _ _, rfl, rfl, pre.length, by simp, HN0.out, hb, HLE.out⟩
    · have hnk : ¬ (ks.length : Int) ≤ (pre.length : Int) := by omega
      gi_wp2_with fail
      refine ⟨fun k => k = bk + 1, fun k hk => Or.inl hk, fun k hk => by subst hk; rw [World.size_setCell]; exact hbw, ⟨rfl, rfl, rfl, by rw [World.size_setCell]; exact Nat.le_refl _, fun k _ hn => Below.heap_setCell W ⟨bk + 1, 0, none⟩ _ k hn⟩, rfl, ?_, ?_, .inl ?_⟩
      · have := World.cell?_setCell_same W ⟨bk + 1, 0, none⟩ (.int .i64 ((pre.length : Int) + 1)) HN0.out
        rw [List.length_append, List.length_singleton]
        exact this
      · rw [World.frozen?_setCell]; exact HNF.out
      · rw [List.length_append, List.length_singleton]; omega
end Go.Proofs.YtohlnpopkaoljaaDoor
