/-
  CONTRACT of the document's own Same (layer 12).
-/
import Derived.Test.YtgahamppfdhnaaaDoorAsPrW
namespace Go.Proofs.YtgahamppfdhnaaaDoor
open Go.RowKit

theorem node_new' (w : World) (n : Nd) : NodeAt (w.alloc (.cells #[.string n.op, .string n.tx, .int .i64 n.pl, .slice n.kp n.kn n.kc] 28)) w.heap.size 0 n :=
  ⟨by simp [go_sem], by simp [go_sem], by simp [go_sem], by simp [go_sem]⟩
def RSameOk (a : AT) : Prop := ∀ (b : AT) (w : World) (B C : Nat → Prop), TV w B a.nd a.ks → TV w C b.nd b.ks → (er a).size ≤ 1000000 →
  Calls Tryd.prog 14 #[a.nd.val, b.nd.val] w fun e w' => e = .returned (.bool (sameT (er a) (er b))) ∧ Below w.heap.size w w'
/-- What the document's Same reads. -/
structure Rs2 (w : World) (B C : Nat → Prop) (N M : Nd) (ks ms : List AT) (W : World) : Prop where
  bel : Below w.heap.size w W
  n : NodeAt W w.heap.size 0 N
  m : NodeAt W (w.heap.size + 1) 0 M
  ks : MemL W B ks
  ms : MemL W C ms
theorem Rs2.next {w W W' : World} {B C : Nat → Prop} {N M : Nd} {ks ms : List AT} (h : Rs2 w B C N M ks ms W) (hb : Below W.heap.size W W') : Rs2 w B C N M ks ms W' :=
  ⟨h.bel.trans (hb.mono h.bel.size), h.n.kept (hb.block _ h.n.lt), h.m.kept (hb.block _ h.m.lt), h.ks.next hb, h.ms.next hb⟩
set_option maxHeartbeats 8000000 in
set_option maxRecDepth 100000 in
theorem rsame_in (a1 a2 b1 b2 : ByteArray) (a3 b3 : Int) (a4 b4 : Option Addr) (a6 b6 : Nat) (ks ms : List AT) (w : World) (B C : Nat → Prop) (hka : Kd a4 ks) (hkb : Kd b4 ms) (hma : MemL w B ks) (hmb : MemL w C ms) (ih : ∀ k ∈ ks, RSameOk k) (hz : sizeL (erL ks) ≤ 1000000) :
    Calls Tryd.prog 14 #[.agg #[.string a1, .string a2, .int .i64 a3, .slice a4 ks.length a6], .agg #[.string b1, .string b2, .int .i64 b3, .slice b4 ms.length b6]] w fun e w' => e = .returned (.bool (eqB a1 b1 && (eqB a2 b2 && sameL (erL ks) (erL ms)))) ∧ Below w.heap.size w w' := by
  have hba : Below w.heap.size w ((w.alloc (.cells #[.string a1, .string a2, .int .i64 a3, .slice a4 ks.length a6] 28)).alloc (.cells #[.string b1, .string b2, .int .i64 b3, .slice b4 ms.length b6] 28)) := ((Below.refl _ _).alloc (Nat.le_refl _) _).alloc (by simp) _
  have hkl : ks.length ≤ 1000000 := by
    have := told_sizeL_len (erL ks)
    rw [erL_len] at this
    omega
  have hnm : NodeAt ((w.alloc (.cells #[.string a1, .string a2, .int .i64 a3, .slice a4 ks.length a6] 28)).alloc (.cells #[.string b1, .string b2, .int .i64 b3, .slice b4 ms.length b6] 28)) (w.heap.size + 1) 0 ⟨b1, b2, b3, b4, ms.length, b6⟩ := by
    have := node_new' (w.alloc (.cells #[.string a1, .string a2, .int .i64 a3, .slice a4 ks.length a6] 28)) ⟨b1, b2, b3, b4, ms.length, b6⟩
    rw [World.size_alloc] at this
    exact this
  have HR : Hid (Rs2 w B C ⟨a1, a2, a3, a4, ks.length, a6⟩ ⟨b1, b2, b3, b4, ms.length, b6⟩ ks ms ((w.alloc (.cells #[.string a1, .string a2, .int .i64 a3, .slice a4 ks.length a6] 28)).alloc (.cells #[.string b1, .string b2, .int .i64 b3, .slice b4 ms.length b6] 28))) := Lib.hid
    ⟨hba, (node_new' w ⟨a1, a2, a3, a4, ks.length, a6⟩).kept (Below.heap_alloc _ _ _ (by simp)), hnm, hma.next hba, hmb.next hba⟩
  have HBA := Lib.hid hba
  have HP := Lib.hid hka
  have HQ := Lib.hid hkb
  have HIH := Lib.hid ih
  have HZ := Lib.hid hz
  clear hba hnm hka hkb hma hmb ih hz
  cases h1 : eqB a1 b1 with
  | false =>
    have g1 : (a1.toList == b1.toList) = false := h1
    clear h1
    go_enter Tryd.func14, Tryd.ntmps14
    go_wp2_with fail
    go_ret
    exact ⟨rfl, HBA.out⟩
  | true =>
  have g1 : (a1.toList == b1.toList) = true := h1
  clear h1
  cases h2 : eqB a2 b2 with
  | false =>
    have g2 : (a2.toList == b2.toList) = false := h2
    clear h2
    go_enter Tryd.func14, Tryd.ntmps14
    go_wp2_with fail
    go_ret
    exact ⟨rfl, HBA.out⟩
  | true =>
  have g2 : (a2.toList == b2.toList) = true := h2
  clear h2
  by_cases hl : ks.length = ms.length
  rotate_left
  · have hli : ((ks.length : Int) == (ms.length : Int)) = false := by rw [beq_eq_false_iff_ne]; omega
    have HF : Hid (sameL (erL ks) (erL ms) = false) := Lib.hid (by
      rw [Bool.eq_false_iff]
      intro h
      have := sameL_len h
      rw [erL_len, erL_len] at this
      exact hl this)
    go_enter Tryd.func14, Tryd.ntmps14
    go_wp2_with fail
    go_ret
    exact ⟨by rw [HF.out]; rfl, HBA.out⟩
  have HL := Lib.hid hl
  rw [← hl] at HR ⊢
  clear hl
  go_enter Tryd.func14, Tryd.ntmps14
  go_wp2_with fail
  generalize (w.alloc (.cells #[.string a1, .string a2, .int .i64 a3, .slice a4 ks.length a6] 28)).alloc (.cells #[.string b1, .string b2, .int .i64 b3, .slice b4 ks.length b6] 28) = W0 at *
  clear HBA
  go_loopw [30] (fun iv wr => ∃ k : Nat, k ≤ ks.length ∧ iv = .int .i64 (k : Int) ∧ Hid (∀ (j : Nat), j < k → ∀ (h1 : j < ks.length) (h2 : j < ms.length), sameT (er ks[j]) (er ms[j]) = true) ∧ Hid (Rs2 w B C ⟨a1, a2, a3, a4, ks.length, a6⟩ ⟨b1, b2, b3, b4, ks.length, b6⟩ ks ms wr)) (fun iv _ => ks.length - (intOf iv).toNat)
  case atStart => exact ⟨0, Nat.zero_le _, by simp, Lib.hid (fun j h => by omega), HR⟩
  case round =>
    obtain ⟨k, hk, rfl, HS, HRr⟩ := hrel
    clear HR
    by_cases hc : k < ks.length
    · have hki : (k : Int) < (ks.length : Int) := by omega
      have hc2 : k < ms.length := by have := HL.out; omega
      obtain ⟨kg, ko, rfl, hkk⟩ : ∃ kg ko, a4 = some ⟨kg, ko, none⟩ ∧ ∀ (i : Nat) (h : i < ks.length), ks[i].g = kg ∧ ks[i].o = ko + i * 4 := by
        rcases HP.out with rfl | h
        · simp at hc
        · exact h
      obtain ⟨mg, mo, rfl, hmm⟩ : ∃ kg ko, b4 = some ⟨kg, ko, none⟩ ∧ ∀ (i : Nat) (h : i < ms.length), ms[i].g = kg ∧ ms[i].o = ko + i * 4 := by
        rcases HQ.out with rfl | h
        · simp at hc2
        · exact h
      obtain ⟨eg, eo⟩ := hkk k hc
      obtain ⟨fg, fo⟩ := hmm k hc2
      obtain ⟨_, hna, hkd2, hmem2⟩ := Mem.iff.1 (HRr.out.ks.all _ (List.getElem_mem hc))
      obtain ⟨_, hnb, hkd3, hmem3⟩ := Mem.iff.1 (HRr.out.ms.all _ (List.getElem_mem hc2))
      rw [eg, eo] at hna
      rw [fg, fo] at hnb
      have hdr : Below wr.heap.size wr wr.drew := drew_below wr
      have hTA : TV wr.drew B ks[k].nd ks[k].ks := TV.next ⟨by cases ks[k]; rfl, hkd2, hmem2⟩ hdr
      have hTB : TV wr.drew C ms[k].nd ms[k].ks := TV.next ⟨by cases ms[k]; rfl, hkd3, hmem3⟩ hdr
      have hsz : (er ks[k]).size ≤ 1000000 := by have := told_size_kid (List.getElem_mem hc); have := HZ.out; omega
      have hcall := HIH.out ks[k] (List.getElem_mem hc) ms[k] wr.drew B C hTA hTB hsz
      have HST : Hid (sameT (er ks[k]) (er ms[k]) = true → ∀ (j : Nat), j < k + 1 → ∀ (h1 : j < ks.length) (h2 : j < ms.length), sameT (er ks[j]) (er ms[j]) = true) := Lib.hid (fun h j hj h1 h2 => by
        by_cases e : j = k
        · subst e; exact h
        · exact HS.out j (by omega) h1 h2)
      have HSF : Hid (sameT (er ks[k]) (er ms[k]) = false → sameL (erL ks) (erL ms) = false) := Lib.hid (fun h => by
        rw [Bool.eq_false_iff]
        intro h2
        rw [sameL_iff (by rw [erL_len, erL_len]; exact HL.out)] at h2
        have h3 := h2 k (by rw [erL_len]; exact hc) (by rw [erL_len]; exact hc2)
        simp only [erL_map, List.getElem_map] at h3
        rw [h] at h3
        cases h3)
      obtain ⟨⟨x1, x2, x3, x4, x5, x6⟩, hxa⟩ : ∃ n, n = ks[k].nd := ⟨_, rfl⟩
      obtain ⟨⟨y1, y2, y3, y4, y5, y6⟩, hyb⟩ : ∃ n, n = ms[k].nd := ⟨_, rfl⟩
      rw [← hxa] at hna hcall
      rw [← hyb] at hnb hcall
      simp only [Nd.val] at hcall
      generalize sameT (er ks[k]) (er ms[k]) = sb at *
      have HC := Lib.hid hcall
      have HN0 := Lib.hid (And.intro HRr.out.n.c3 (And.intro HRr.out.m.c3 (And.intro (hna.kept (show wr.drew.heap[kg]? = wr.heap[kg]? from rfl)) (hnb.kept (show wr.drew.heap[mg]? = wr.heap[mg]? from rfl)))))
      have HRd := Lib.hid (HRr.out.next hdr)
      clear hkk hmm eg eo fg fo hkd2 hmem2 hkd3 hmem3 hna hnb hTA hTB hsz hcall hxa hyb HS hdr
      go_wp2_with fail
      refine wp_region_held_drew (S := fun w' => w'.cell? ⟨w.heap.size, 3, none⟩ = some (.slice (some ⟨kg, ko, none⟩) ks.length a6) ∧ w'.cell? ⟨w.heap.size + 1, 3, none⟩ = some (.slice (some ⟨mg, mo, none⟩) ks.length b6) ∧ NodeAt w' kg (ko + k * 4) ⟨x1, x2, x3, x4, x5, x6⟩ ∧ NodeAt w' mg (mo + k * 4) ⟨y1, y2, y3, y4, y5, y6⟩) (by kernel_rfl) (HN0.out) (fun hHeld => ?_)
      refine wpAnyH_take (i := 0) (oi := _) (v := ?_) rfl (by kernel_rfl) (by kernel_rfl) (by kernel_rfl) (fun _ _ _ h => h) (Or.inl ⟨by rfl, ?_⟩) (by assumption) ?_
      rotate_left
      · (intro w hSw; obtain ⟨q0, q1, ⟨c0, c1, c2, c3⟩, d0, d1, d2, d3⟩ := hSw; simp only at c0 c1 c2 c3 d0 d1 d2 d3; go_simp; try with_reducible rfl)
      try simp only [List.getElem_toArray, List.getElem_cons_zero, Act.put, List.setIfInBounds_toArray, List.set_cons_zero, List.set_cons_succ]
      refine wpAnyH_take (i := 1) (oi := _) (v := ?_) rfl (by kernel_rfl) (by kernel_rfl) (by kernel_rfl) (fun _ _ _ h => h) (Or.inl ⟨by rfl, ?_⟩) (by assumption) ?_
      rotate_left
      · (intro w hSw; obtain ⟨q0, q1, ⟨c0, c1, c2, c3⟩, d0, d1, d2, d3⟩ := hSw; simp only at c0 c1 c2 c3 d0 d1 d2 d3; go_simp; try with_reducible rfl)
      try simp only [List.getElem_toArray, List.getElem_cons_zero, List.getElem_cons_succ, Act.put, List.setIfInBounds_toArray, List.set_cons_zero, List.set_cons_succ]
      refine wpAnyH_take (i := 2) (oi := _) (v := ?_) rfl (by kernel_rfl) (by kernel_rfl) (by kernel_rfl) (fun _ _ _ h => h) (Or.inl ⟨by rfl, ?_⟩) (by assumption) ?_
      rotate_left
      · (intro w hSw; obtain ⟨q0, q1, ⟨c0, c1, c2, c3⟩, d0, d1, d2, d3⟩ := hSw; simp only at c0 c1 c2 c3 d0 d1 d2 d3; go_simp; try with_reducible rfl)
      try simp only [List.getElem_toArray, List.getElem_cons_zero, List.getElem_cons_succ, Act.put, List.setIfInBounds_toArray, List.set_cons_zero, List.set_cons_succ]
      refine wpAnyH_take (i := 3) (oi := _) (v := ?_) rfl (by kernel_rfl) (by kernel_rfl) (by kernel_rfl) (fun _ _ _ h => h) (Or.inl ⟨by rfl, ?_⟩) (by assumption) ?_
      rotate_left
      · (intro w hSw; obtain ⟨q0, q1, ⟨c0, c1, c2, c3⟩, d0, d1, d2, d3⟩ := hSw; simp only at c0 c1 c2 c3 d0 d1 d2 d3; go_simp; try with_reducible rfl)
      try simp only [List.getElem_toArray, List.getElem_cons_zero, List.getElem_cons_succ, Act.put, List.setIfInBounds_toArray, List.set_cons_zero, List.set_cons_succ]
      refine wpAnyH_take (i := 4) (oi := _) (v := ?_) rfl (by kernel_rfl) (by kernel_rfl) (by kernel_rfl) (fun _ _ _ h => h) (Or.inl ⟨by rfl, ?_⟩) (by assumption) ?_
      rotate_left
      · (intro w hSw; obtain ⟨q0, q1, ⟨c0, c1, c2, c3⟩, d0, d1, d2, d3⟩ := hSw; simp only at c0 c1 c2 c3 d0 d1 d2 d3; go_simp; try with_reducible rfl)
      try simp only [List.getElem_toArray, List.getElem_cons_zero, List.getElem_cons_succ, Act.put, List.setIfInBounds_toArray, List.set_cons_zero, List.set_cons_succ]
      refine wpAnyH_take (i := 5) (oi := _) (v := ?_) rfl (by kernel_rfl) (by kernel_rfl) (by kernel_rfl) (fun _ _ _ h => h) (Or.inl ⟨by rfl, ?_⟩) (by assumption) ?_
      rotate_left
      · (intro w hSw; obtain ⟨q0, q1, ⟨c0, c1, c2, c3⟩, d0, d1, d2, d3⟩ := hSw; simp only at c0 c1 c2 c3 d0 d1 d2 d3; go_simp; try with_reducible rfl)
      try simp only [List.getElem_toArray, List.getElem_cons_zero, List.getElem_cons_succ, Act.put, List.setIfInBounds_toArray, List.set_cons_zero, List.set_cons_succ]
      refine wpAnyH_take (i := 6) (oi := _) (v := ?_) rfl (by kernel_rfl) (by kernel_rfl) (by kernel_rfl) (fun _ _ _ h => h) (Or.inl ⟨by rfl, ?_⟩) (by assumption) ?_
      rotate_left
      · (intro w hSw; obtain ⟨q0, q1, ⟨c0, c1, c2, c3⟩, d0, d1, d2, d3⟩ := hSw; simp only at c0 c1 c2 c3 d0 d1 d2 d3; go_simp; try with_reducible rfl)
      try simp only [List.getElem_toArray, List.getElem_cons_zero, List.getElem_cons_succ, Act.put, List.setIfInBounds_toArray, List.set_cons_zero, List.set_cons_succ]
      refine wpAnyH_take (i := 7) (oi := _) (v := ?_) rfl (by kernel_rfl) (by kernel_rfl) (by kernel_rfl) (fun _ _ _ h => h) (Or.inl ⟨by rfl, ?_⟩) (by assumption) ?_
      rotate_left
      · (intro w hSw; obtain ⟨q0, q1, ⟨c0, c1, c2, c3⟩, d0, d1, d2, d3⟩ := hSw; simp only at c0 c1 c2 c3 d0 d1 d2 d3; go_simp; try with_reducible rfl)
      try simp only [List.getElem_toArray, List.getElem_cons_zero, List.getElem_cons_succ, Act.put, List.setIfInBounds_toArray, List.set_cons_zero, List.set_cons_succ]
      refine wpAnyH_take (i := 8) (oi := _) (v := ?_) rfl (by kernel_rfl) (by kernel_rfl) (by kernel_rfl) (fun _ _ _ h => h) (Or.inl ⟨by rfl, ?_⟩) (by assumption) ?_
      rotate_left
      · (intro w hSw; obtain ⟨q0, q1, ⟨c0, c1, c2, c3⟩, d0, d1, d2, d3⟩ := hSw; simp only at c0 c1 c2 c3 d0 d1 d2 d3; go_simp; try with_reducible rfl)
      try simp only [List.getElem_toArray, List.getElem_cons_zero, List.getElem_cons_succ, Act.put, List.setIfInBounds_toArray, List.set_cons_zero, List.set_cons_succ]
      refine wpAnyH_take (i := 9) (oi := _) (v := ?_) rfl (by kernel_rfl) (by kernel_rfl) (by kernel_rfl) (fun _ _ _ h => h) (Or.inl ⟨by rfl, ?_⟩) (by assumption) ?_
      rotate_left
      · (intro w hSw; obtain ⟨q0, q1, ⟨c0, c1, c2, c3⟩, d0, d1, d2, d3⟩ := hSw; simp only at c0 c1 c2 c3 d0 d1 d2 d3; go_simp; try with_reducible rfl)
      try simp only [List.getElem_toArray, List.getElem_cons_zero, List.getElem_cons_succ, Act.put, List.setIfInBounds_toArray, List.set_cons_zero, List.set_cons_succ]
      refine wpAnyH_ready (rs := [10]) (by kernel_rfl) (by simp) ?_
      refine AllReadyH.cons (o := _) rfl (fun K hK => ?_) AllReadyH.nil
      go_simp
      refine HC.out.mono ?_
      rintro e w8 ⟨rfl, hb8⟩
      have HR8 := Lib.hid (HRd.out.next hb8)
      have HN8 := Lib.hid (And.intro HR8.out.n.c3 (And.intro HR8.out.m.c3 (And.intro (HN0.out.2.2.1.kept (hb8.block _ HN0.out.2.2.1.lt)) (HN0.out.2.2.2.kept (hb8.block _ HN0.out.2.2.2.lt)))))
      clear hb8
      refine hK.out _ _ (HN8.out) (fun hHeld => ?_)
      clear hK K
      try simp only [List.getElem_toArray, List.getElem_cons_zero, List.getElem_cons_succ, Act.put, List.setIfInBounds_toArray, List.set_cons_zero, List.set_cons_succ]
      refine wpAnyH_take (i := 11) (oi := _) (v := ?_) rfl (by kernel_rfl) (by kernel_rfl) (by kernel_rfl) (fun _ _ _ h => h) (Or.inl ⟨by rfl, ?_⟩) (by assumption) ?_
      rotate_left
      · (intro w hSw; obtain ⟨q0, q1, ⟨c0, c1, c2, c3⟩, d0, d1, d2, d3⟩ := hSw; simp only at c0 c1 c2 c3 d0 d1 d2 d3; go_simp; try with_reducible rfl)
      try simp only [List.getElem_toArray, List.getElem_cons_zero, List.getElem_cons_succ, Act.put, List.setIfInBounds_toArray, List.set_cons_zero, List.set_cons_succ]
      refine wpAnyH_done (by kernel_rfl) ?_ _
      cases sb with
      | true =>
        have HS2 := Lib.hid (HST.out rfl)
        clear HST HSF
        go_wp2_with fail
        go_roundw
        case measure => simp [intOf]; omega
        case rel => exact ⟨k + 1, by omega, by simp, HS2, HR8⟩
      | false =>
        have HS2 := Lib.hid (HSF.out rfl)
        clear HST HSF
        go_wp2_with fail
        go_ret
        exact ⟨by rw [HS2.out]; rfl, HR8.out.bel⟩
    · obtain rfl : k = ks.length := by omega
      have hki : ¬ (ks.length : Int) < (ks.length : Int) := by omega
      have HRS : Hid (sameL (erL ks) (erL ms) = true) := Lib.hid (by
        rw [sameL_iff (by rw [erL_len, erL_len]; exact HL.out)]
        intro i h1 h2
        simp only [erL_map, List.getElem_map]
        rw [erL_len] at h1 h2
        exact HS.out i h1 h1 (by have := HL.out; omega))
      go_wp2_with fail
      go_ret
      exact ⟨by rw [HRS.out]; rfl, HRr.out.bel⟩
theorem rsame_one (a : AT) (ih : ∀ k ∈ a.ks, RSameOk k) : RSameOk a := by
  intro b w B C hA hB hz
  rw [sameT_eq]
  obtain ⟨⟨a1, a2, a3, a4, a5, a6⟩, hna⟩ : ∃ n, n = a.nd := ⟨_, rfl⟩
  obtain ⟨⟨b1, b2, b3, b4, b5, b6⟩, hnb⟩ : ∃ n, n = b.nd := ⟨_, rfl⟩
  rw [← hna] at hA ⊢
  rw [← hnb] at hB ⊢
  have hz2 : sizeL (erL a.ks) ≤ 1000000 := by cases a; rw [er, T.size] at hz; simp only [AT.ks]; omega
  obtain rfl : a5 = a.ks.length := hA.len
  obtain rfl : b5 = b.ks.length := hB.len
  exact rsame_in a1 a2 b1 b2 a3 b3 a4 b4 a6 b6 a.ks b.ks w B C hA.kd hB.kd hA.mem hB.mem ih hz2
mutual
theorem rsame_any : ∀ a : AT, RSameOk a
  | .mk op tx pl kp kc g o ks => rsame_one (.mk op tx pl kp kc g o ks) (rsameAL ks)
theorem rsameAL : ∀ (l : List AT), ∀ k ∈ l, RSameOk k
  | [], k, h => by cases h
  | a :: l, k, h => by
    rcases List.mem_cons.1 h with h | h
    · rw [h]; exact rsame_any a
    · exact rsameAL l k h
end
theorem rsame_of (n m : Nd) (t u : T) (b c : Nat) (w : World) (h : VT w b n t) (k : VT w c m u) (hz : t.size ≤ 1000000) :
    Calls Tryd.prog 14 #[n.val, m.val] w fun e w' => e = .returned (.bool (sameT t u)) ∧ Below w.heap.size w w' := by
  obtain ⟨ks, h1, rfl⟩ := h
  obtain ⟨ms, k1, rfl⟩ := k
  obtain ⟨op, tx, pl, kp, kn, kc⟩ := n
  obtain ⟨op2, tx2, pl2, kp2, kn2, kc2⟩ := m
  obtain rfl : kn = ks.length := h1.len
  obtain rfl : kn2 = ms.length := k1.len
  have := rsame_any (.mk op tx pl kp kc 0 0 ks) (.mk op2 tx2 pl2 kp2 kc2 0 0 ms) w _ _ h1 k1 (by rw [er]; exact hz)
  rw [er, er] at this
  exact this
end Go.Proofs.YtgahamppfdhnaaaDoor
