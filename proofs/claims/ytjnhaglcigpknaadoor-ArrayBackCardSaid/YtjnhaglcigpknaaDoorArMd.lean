/-
  CONTRACT of the laws' own made of layer 8: an array of any forty calls.
-/
import Derived.Test.YtjnhaglcigpknaaDoorArAw
import Derived.Test.YtjnhaglcigpknaaDoorCellW2
import Derived.Deep.LoopGhost
import Derived.Test.YtjnhaglcigpknaaDoorOrdC
namespace Go.Proofs.YtjnhaglcigpknaaDoor
open Go.RowKit Go.Maps

/-- A call: its kind, its key, its value. -/
structure Ac where
  d : Int
  key : ByteArray
  c : Ce
/-- The slice at q holds these calls. -/
def AcAt (w : World) (q : Option Addr) (l : List Ac) : Prop := ∀ i (h : i < l.length), ∃ a, q = some a ∧ a.block < w.heap.size ∧
  w.cell? (a.add (i * 5)) = some (.int .i64 l[i].d) ∧ w.cell? ⟨(a.add (i * 5)).block, (a.add (i * 5)).off + 1, none⟩ = some (.string l[i].key) ∧
  w.cell? ⟨(a.add (i * 5)).block, (a.add (i * 5)).off + 2, none⟩ = some (.int .i64 l[i].c.k) ∧ w.cell? ⟨(a.add (i * 5)).block, (a.add (i * 5)).off + 3, none⟩ = some (.int .i64 l[i].c.n) ∧ w.cell? ⟨(a.add (i * 5)).block, (a.add (i * 5)).off + 4, none⟩ = some (.string l[i].c.s)
theorem add_lt' {w : World} {a : Addr} (h : a.block < w.heap.size) (j : Nat) : (a.add j).block < w.heap.size := by
  have e : (a.add j).block = a.block := by unfold Addr.add; split <;> rfl
  rw [e]; exact h
def Ac.ok (a : Ac) : Prop := a.key.size ≤ maxLen ∧ a.c.s.size ≤ maxLen ∧ (-9223372036854775808 ≤ a.c.n ∧ a.c.n ≤ 9223372036854775807) ∧ (-9223372036854775808 ≤ a.c.k ∧ a.c.k ≤ 9223372036854775807)
/-- What made makes: few keys, short ones. -/
structure Mdd (w W : World) (b k : Nat) (P : List Pr) : Prop where
  aa : AA w W b P
  few : P.length ≤ k
  key : ∀ p ∈ P, p.1.size ≤ 40 ∧ p.2.s.size ≤ 100
  good : ∀ p ∈ P, GoodC p.2.k p.2.n p.2.s
theorem Mdd.next {w W W' : World} {b k : Nat} {P : List Pr} (h : Mdd w W b k P) (hb : Below W.heap.size W W') : Mdd w W' b k P := ⟨h.aa.next hb, h.few, h.key, h.good⟩
theorem Mdd.step {w W : World} {b k : Nat} {P : List Pr} (h : Mdd w W b k P) : Mdd w W b (k + 1) P := ⟨h.aa, Nat.le_succ_of_le h.few, h.key, h.good⟩
theorem putP_mem {P : List Pr} {s : ByteArray} {t : Ce} {p : Pr} (h : p ∈ putP P s t) : p ∈ P ∨ (p.1 = s ∨ ∃ q ∈ P, q.1 = p.1) ∧ p.2 = t := by
  unfold putP at h
  split at h
  · obtain ⟨q, hq, he⟩ := List.mem_map.1 h
    split at he
    · subst he; exact .inr ⟨.inr ⟨q, hq, rfl⟩, rfl⟩
    · subst he; exact .inl hq
  · rcases List.mem_append.1 h with h | h
    · exact .inl h
    · simp at h; subst h; exact .inr ⟨.inl rfl, rfl⟩
theorem Mdd.put {w W W' : World} {b k : Nat} {P : List Pr} (h : Mdd w W b k P) {s : ByteArray} {t : Ce} (ha : AA w W' b (putP P s t)) (hs : s.size ≤ 40) (ht : t.s.size ≤ 100) (hgc : GoodC t.k t.n t.s) : Mdd w W' b (k + 1) (putP P s t) := by
  refine ⟨ha, Nat.le_trans (putP_len _ _ _) (Nat.succ_le_succ h.few), fun p hp => ?_, fun p hp => by
    rcases putP_mem hp with hp | ⟨_, h2⟩
    · exact h.good p hp
    · rw [h2]; exact hgc⟩
  rcases putP_mem hp with hp | ⟨hp | ⟨q, hq, hp⟩, h2⟩
  · exact h.key p hp
  · rw [hp, h2]; exact ⟨hs, ht⟩
  · rw [← hp, h2]; exact ⟨(h.key q hq).1, ht⟩
theorem Mdd.del {w W W' : World} {b k : Nat} {P : List Pr} (h : Mdd w W b k P) {s : ByteArray} (ha : AA w W' b (delP P s)) : Mdd w W' b (k + 1) (delP P s) :=
  ⟨ha, Nat.le_succ_of_le (Nat.le_trans (List.length_filter_le _ _) h.few), fun p hp => h.key p (List.mem_filter.1 hp).1, fun p hp => h.good p (List.mem_filter.1 hp).1⟩
theorem acut_any (k n : Int) (s : ByteArray) (w : World) (hs : s.size ≤ maxLen) :
    Calls Tryd.prog 12 #[cv k n s] w fun e w' => e = .returned (cv k n (cutB s 100)) ∧ Below w.heap.size w w' := by
  have C0 : Hid (∀ W, Calls Tryd.prog 14 #[.string s, .int .i64 100] W fun e w' => e = .returned (.string (cutB s 100)) ∧ W = w') := Lib.hid fun W => cut_any s 100 W hs (by omega)
  generalize cutB s 100 = t at *
  unfold cv
  go_enter Tryd.func12, Tryd.ntmps12
  go_wp2_with ((with_reducible refine (C0.out _).mono ?_); rintro e w' ⟨rfl, rfl⟩)
  refine bodyPost_ret (v := cv k n t) ?_ rfl ⟨rfl, ((Below.refl _ _).alloc (Nat.le_refl _) _).alloc (by simp) _⟩
  simp [results, Tryd.results12, go_sem, cv]
theorem AA.seF {F : Nat → Prop} {w0 W W' : World} {b : Nat} {P Q : List Pr} (h : AA w0 W b P) (hF : ∀ k, F k → w0.heap.size ≤ k) (hs : SeR F W b Q W') : AA w0 W' b Q :=
  ⟨h.bel.trans (hs.2.below hF h.bel.size), hs.1.mono fun k _ hk => hk.elim (hF k) fun hk => Nat.le_trans h.bel.size hk⟩
def MdPost (w : World) (e : Ending) (w' : World) : Prop := ∃ b P, e = .returned (.pointer (some ⟨b, 0, none⟩)) ∧ Mdd w w' b 40 P
set_option maxRecDepth 100000 in
set_option maxHeartbeats 4000000 in
theorem made_any (q : Option Addr) (cap : Nat) (l : List Ac) (w : World) (hA : AcAt w q l) (hl : l.length ≤ maxLen) (ht : ∀ t ∈ l, t.ok) :
    Calls Tryd.prog 4 #[.slice q l.length cap] w (MdPost w) := by
  have HA := Lib.hid hA
  have HT := Lib.hid ht
  have hl' := hl
  have M0 : Hid (Mdd w (w.alloc (.cells #[.map none, .pointer none, .pointer none] 43)) w.heap.size 0 []) := Lib.hid ⟨AA.new w, Nat.le_refl _, fun p hp => absurd hp (by simp), fun p hp => absurd hp (by simp)⟩
  clear hA ht
  unfold maxLen at hl
  go_enter Tryd.func4, Tryd.ntmps4
  go_wp2_with fail
  go_loopw [4] (fun iv wr => ∃ (k : Nat) (P : List Pr), k ≤ l.length ∧ k ≤ 40 ∧ iv = .int .i64 k ∧ Hid (Mdd w wr w.heap.size k P)) (fun iv _ => 40 - (intOf iv).toNat)
  case atStart => exact ⟨0, [], by omega, by omega, rfl, M0⟩
  case round =>
    obtain ⟨k, P, hk, hkn, rfl, HO⟩ := hrel
    by_cases hc : k < l.length ∧ k < 40
    · obtain ⟨h1, h2⟩ := hc
      obtain ⟨a, rfl, hab, k0, k1, k2, k3, k4⟩ := HA.out k h1
      have hab' := add_lt' hab (k * 5)
      have hbl := HO.out.aa.bel
      have c0 := (hbl.cell (p := a.add (k * 5)) hab').trans k0
      have c1 := (hbl.cell (p := ⟨(a.add (k * 5)).block, (a.add (k * 5)).off + 1, none⟩) hab').trans k1
      have c2 := (hbl.cell (p := ⟨(a.add (k * 5)).block, (a.add (k * 5)).off + 2, none⟩) hab').trans k2
      have c3 := (hbl.cell (p := ⟨(a.add (k * 5)).block, (a.add (k * 5)).off + 3, none⟩) hab').trans k3
      have c4 := (hbl.cell (p := ⟨(a.add (k * 5)).block, (a.add (k * 5)).off + 4, none⟩) hab').trans k4
      have HK := Lib.hid (And.intro hab' (And.intro k0 k1))
      obtain ⟨o1, o2, o3, o4⟩ := HT.out _ (List.getElem_mem h1)
      have CT := Lib.hid (fun w => acut_any l[k].c.k l[k].c.n l[k].c.s w o2)
      have CU := Lib.hid (fun w => cut_any l[k].key 40 w o1 (by omega))
      have hts := cutB_size l[k].c.s 100
      have htk := cutB_size l[k].key 40
      obtain ⟨gd, hgd⟩ : ∃ gd : World → Prop, gd = gd := ⟨fun _ => True, rfl⟩
      unfold cv at CT
      clear hbl k0 k1 k2 k3 k4 hab hab' o1 o2 o3 o4 hgd gd
      generalize l[k].d = x0 at *
      generalize l[k].key = xk at *
      generalize l[k].c.k = x1 at *
      generalize l[k].c.n = x2 at *
      generalize l[k].c.s = x3 at *
      generalize cutB x3 100 = ys at *
      generalize cutB xk 40 = yk at *
      go_wp2_with fail
      refine (CT.out _).mono ?_
      rintro e w1 ⟨rfl, hb1⟩
      have M1 := Lib.hid (HO.out.next hb1)
      have F1 : Hid (AF (fun k => w.heap.size ≤ k ∧ k < w1.heap.size) w1 w.heap.size P) := Lib.hid (M1.out.aa.af.mono fun k h1 h2 => ⟨h2, h1⟩)
      have F2 := Lib.hid (F1.out.next ((Below.refl w1.heap.size w1).alloc (Nat.le_refl _) (.cells #[.int .i64 x1, .int .i64 x2, .string ys] 46)))
      have M2 := Lib.hid (M1.out.next ((Below.refl w1.heap.size w1).alloc (Nat.le_refl _) (.cells #[.int .i64 x1, .int .i64 x2, .string ys] 46)))
      have d0 := (M2.out.aa.bel.cell (p := a.add (k * 5)) HK.out.1).trans HK.out.2.1
      have d1 := (M2.out.aa.bel.cell (p := ⟨(a.add (k * 5)).block, (a.add (k * 5)).off + 1, none⟩) HK.out.1).trans HK.out.2.2
      obtain ⟨e0, e1, e2⟩ := box3 (k := x1) (n := x2) (s := ys) w1 46
      have hz : w1.heap.size < (w1.alloc (.cells #[.int .i64 x1, .int .i64 x2, .string ys] 46)).heap.size := by simp
      have hgd0 := good_any x1 x2 ys
      clear c0 c1 c2 c3 c4 hb1 HO CT M1
      by_cases hx : x0 = 3
      · subst hx
        have CD := Lib.hid (M2.out.aa.delete yk (by omega))
        clear hgd0 e0 e1 e2
        go_wp2_with fail
        generalize w1.alloc (.cells #[.int .i64 x1, .int .i64 x2, .string ys] 46) = W2 at *
        refine (CU.out _).mono ?_
        rintro e w3 ⟨rfl, rfl⟩
        go_wp2_with fail
        refine CD.out.mono ?_
        rintro e w4 ⟨rfl, ha⟩
        have M4 := Lib.hid (M2.out.del ha)
        clear ha M2 CD d0 d1
        go_wp2_with fail
        exact ⟨⟨k + 1, delP P yk, by omega, by omega, by simp, M4⟩, by simp [intOf]; omega⟩
      · generalize hW : w1.alloc (.cells #[.int .i64 x1, .int .i64 x2, .string ys] 46) = W2 at *
        go_wp2_with fail
        obtain ⟨gd, hgd, hC⟩ := hgd0 W2 (by omega)
        have HGD := Lib.hid hgd
        clear hgd
        unfold cv at hC
        refine hC.mono ?_
        rintro e w3 ⟨rfl, hb3⟩
        have M3 := Lib.hid (M2.out.next hb3)
        have F3 := Lib.hid ((F2.out.next hb3).next ((Below.refl w3.heap.size w3).drew))
        have hz3 : w1.heap.size < w3.drew.heap.size := Nat.lt_of_lt_of_le hz hb3.size
        have f0 := (hb3.cell (p := ⟨w1.heap.size, 0, none⟩) hz).trans e0
        have f1 := (hb3.cell (p := ⟨w1.heap.size, 1, none⟩) hz).trans e1
        have f2 := (hb3.cell (p := ⟨w1.heap.size, 2, none⟩) hz).trans e2
        have g1 := (hb3.cell (p := ⟨(a.add (k * 5)).block, (a.add (k * 5)).off + 1, none⟩) (World.block_lt_of_cell? _ _ d1)).trans d1
        clear hb3 e0 e1 e2 d0 d1 hgd0 hC M2 hW hz hx
        cases gd with
        | false =>
          go_wp2_with fail
          exact ⟨⟨k + 1, P, by omega, by omega, by simp, Lib.hid M3.out.step⟩, by simp [intOf]; omega⟩
        | true =>
          have M3 := Lib.hid (M3.out.next ((Below.refl w3.heap.size w3).drew))
          have CS := Lib.hid (aset_any F3.out yk (by omega) ⟨x1, x2, ys⟩ (by show ys.size ≤ 1000000; omega) (by have := M3.out.few; omega))
          go_wp2_with fail
          refine wp_region_held_drew (S := fun w' => w'.cell? ⟨w1.heap.size, 0, none⟩ = some (.int .i64 x1) ∧ w'.cell? ⟨w1.heap.size, 1, none⟩ = some (.int .i64 x2) ∧ w'.cell? ⟨w1.heap.size, 2, none⟩ = some (.string ys) ∧ w'.cell? ⟨(a.add (k * 5)).block, (a.add (k * 5)).off + 1, none⟩ = some (.string xk)) (by kernel_rfl) (⟨f0, f1, f2, g1⟩) (fun hHeld => ?_)
          refine wpAnyH_take (i := 0) (oi := _) (v := ?_) rfl (by kernel_rfl) (by kernel_rfl) (by kernel_rfl) (fun _ _ _ h => h) (Or.inl ⟨by rfl, ?_⟩) (by assumption) ?_
          rotate_left
          · (intro w hSw; (try dsimp only at hSw); go_simp; try with_reducible rfl)
          try simp only [List.getElem_toArray, List.getElem_cons_zero, Act.put, List.setIfInBounds_toArray, List.set_cons_zero, List.set_cons_succ]
          refine wpAnyH_take (i := 1) (oi := _) (v := ?_) rfl (by kernel_rfl) (by kernel_rfl) (by kernel_rfl) (fun _ _ _ h => h) (Or.inl ⟨by rfl, ?_⟩) (by assumption) ?_
          rotate_left
          · (intro w hSw; (try dsimp only at hSw); go_simp; try with_reducible rfl)
          try simp only [List.getElem_toArray, List.getElem_cons_zero, List.getElem_cons_succ, Act.put, List.setIfInBounds_toArray, List.set_cons_zero, List.set_cons_succ]
          refine wpAnyH_take (i := 2) (oi := _) (v := ?_) rfl (by kernel_rfl) (by kernel_rfl) (by kernel_rfl) (fun _ _ _ h => h) (Or.inl ⟨by rfl, ?_⟩) (by assumption) ?_
          rotate_left
          · (intro w hSw; (try dsimp only at hSw); go_simp; try with_reducible rfl)
          try simp only [List.getElem_toArray, List.getElem_cons_zero, List.getElem_cons_succ, Act.put, List.setIfInBounds_toArray, List.set_cons_zero, List.set_cons_succ]
          refine wpAnyH_take (i := 3) (oi := _) (v := ?_) rfl (by kernel_rfl) (by kernel_rfl) (by kernel_rfl) (fun _ _ _ h => h) (Or.inl ⟨by rfl, ?_⟩) (by assumption) ?_
          rotate_left
          · (intro w hSw; (try dsimp only at hSw); go_simp; (try rw [if_neg (by omega)]); try with_reducible rfl)
          try simp only [List.getElem_toArray, List.getElem_cons_zero, List.getElem_cons_succ, Act.put, List.setIfInBounds_toArray, List.set_cons_zero, List.set_cons_succ]
          refine wpAnyH_take (i := 4) (oi := _) (v := ?_) rfl (by kernel_rfl) (by kernel_rfl) (by kernel_rfl) (fun _ _ _ h => h) (Or.inl ⟨by rfl, ?_⟩) (by assumption) ?_
          rotate_left
          · (intro w hSw; (try dsimp only at hSw); go_simp; try with_reducible rfl)
          try simp only [List.getElem_toArray, List.getElem_cons_zero, List.getElem_cons_succ, Act.put, List.setIfInBounds_toArray, List.set_cons_zero, List.set_cons_succ]
          refine wpAnyH_take (i := 5) (oi := _) (v := ?_) rfl (by kernel_rfl) (by kernel_rfl) (by kernel_rfl) (fun _ _ _ h => h) (Or.inl ⟨by rfl, ?_⟩) (by assumption) ?_
          rotate_left
          · (intro w hSw; (try dsimp only at hSw); go_simp; try with_reducible rfl)
          try simp only [List.getElem_toArray, List.getElem_cons_zero, List.getElem_cons_succ, Act.put, List.setIfInBounds_toArray, List.set_cons_zero, List.set_cons_succ]
          refine wpAnyH_call (i := 6) (oi := _) (v := .string yk) rfl (by kernel_rfl) (by kernel_rfl) (by kernel_rfl) (fun _ _ _ h => h) (by rfl) 14 #[.string xk, .int .i64 40] (fun w => ?_) CU.out (by assumption) ?_
          · (go_simp; try with_reducible rfl)
          try simp only [List.getElem_toArray, List.getElem_cons_zero, List.getElem_cons_succ, Act.put, List.setIfInBounds_toArray, List.set_cons_zero, List.set_cons_succ]
          refine wpAnyH_take (i := 7) (oi := _) (v := ?_) rfl (by kernel_rfl) (by kernel_rfl) (by kernel_rfl) (fun _ _ _ h => h) (Or.inl ⟨by rfl, ?_⟩) (by assumption) ?_
          rotate_left
          · (intro w hSw; (try dsimp only at hSw); go_simp; try with_reducible rfl)
          try simp only [List.getElem_toArray, List.getElem_cons_zero, List.getElem_cons_succ, Act.put, List.setIfInBounds_toArray, List.set_cons_zero, List.set_cons_succ]
          refine wpAnyH_ready (rs := [8]) (by kernel_rfl) (by simp) ?_
          refine AllReadyH.cons (o := _) rfl (fun K hK => ?_) AllReadyH.nil
          go_simp
          refine CS.out.mono ?_
          rintro e w5 ⟨rfl, ha⟩
          have M5 := Lib.hid (M3.out.put (M3.out.aa.seF (fun k hk => hk.1) ha) (by omega) (by show ys.size ≤ 100; omega) (HGD.out.1 trivial))
          have hgl : (a.add (k * 5)).block < w3.drew.heap.size := World.block_lt_of_cell? w3 ⟨(a.add (k * 5)).block, (a.add (k * 5)).off + 1, none⟩ g1
          have hgw := HK.out.1
          have hn1 : ¬ (w.heap.size ≤ w1.heap.size ∧ w1.heap.size < w1.heap.size) := fun h => by omega
          have hn2 : ¬ (w.heap.size ≤ (a.add (k * 5)).block ∧ (a.add (k * 5)).block < w1.heap.size) := fun h => by omega
          refine hK.out _ _ ⟨(oth_cell ha.2 hz3 hn1).trans f0, (oth_cell ha.2 hz3 hn1).trans f1, (oth_cell ha.2 hz3 hn1).trans f2, (oth_cell ha.2 hgl hn2).trans g1⟩ (fun hHeld => ?_)
          clear hK K ha M3 CS f0 f1 f2 g1 hHeld F3
          refine wpAnyH_done (by kernel_rfl) ?_ _
          go_wp2_with fail
          go_roundw
          case rel => exact ⟨k + 1, _, by omega, by omega, by go_num, M5⟩
          case measure => simp [intOf]; omega
    · by_cases hc1 : k < l.length
      · have hc2 : ¬ (k : Int) < 40 := by omega
        go_wp2_with fail
        go_ret
        exact ⟨_, P, rfl, ⟨HO.out.aa, by have := HO.out.few; omega, HO.out.key, HO.out.good⟩⟩
      · go_wp2_with fail
        go_ret
        exact ⟨_, P, rfl, ⟨HO.out.aa, by have := HO.out.few; omega, HO.out.key, HO.out.good⟩⟩
end Go.Proofs.YtjnhaglcigpknaaDoor
