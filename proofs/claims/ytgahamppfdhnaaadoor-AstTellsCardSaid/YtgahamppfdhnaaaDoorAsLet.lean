/-
  CONTRACT of the laws' own letters: has an Op other bytes than small letters?
-/
import Derived.Test.YtgahamppfdhnaaaDoorAsPrM
import Derived.Test.YtgahamppfdhnaaaDoorSeqA
namespace Go.Proofs.YtgahamppfdhnaaaDoor
open Go.RowKit Go.Shelf
attribute [local go_sem] Oper.semAt_some

theorem ltrs_iff (s : ByteArray) : ltrs s = true ↔ ∀ (j : Nat) (h : j < s.size), ltr s[j] = true := by
  unfold ltrs
  rw [List.all_eq_true]
  constructor
  · intro h j hj
    have h2 : j < s.data.toList.length := by simpa using hj
    have := h (s.data.toList[j]) (List.getElem_mem h2)
    rw [Array.getElem_toList] at this
    exact this
  · intro h c hc
    obtain ⟨j, hj, rfl⟩ := List.getElem_of_mem hc
    have := h j (by simpa using hj)
    rw [Array.getElem_toList]
    exact this
theorem ltr_iff (c : UInt8) : ltr c = true ↔ 97 ≤ c.toNat ∧ c.toNat ≤ 122 := by
  unfold ltr
  rw [Bool.and_eq_true, decide_eq_true_eq, decide_eq_true_eq]
theorem ltrs_no {s : ByteArray} {j : Nat} (h : j < s.size) (hn : ¬ (97 ≤ s[j].toNat ∧ s[j].toNat ≤ 122)) : ltrs s = false := by
  rw [Bool.eq_false_iff]
  intro h2
  exact hn ((ltr_iff _).1 ((ltrs_iff s).1 h2 j h))
theorem run_ix (s : ByteArray) (i : Nat) (h : i < s.size) (W : World) : (Instr.index 9 (.string s) (.int .i64 (i : Int))).run Tryd.prog W = .ok (.int .u8 (s[i].toNat : Int)) W := by
  rw [run_index_string W _ _ _ _ Tryd.underlying9, dif_pos ⟨by omega, by omega⟩]
  rfl
mutual
theorem flatT_ok (d : Nat) : ∀ t : T, TxOk t → ∀ k ∈ flatT d t, k.2.1.size ≤ 281474976710656
  | .mk op tx pl ks, h, k, hk => by
    rw [TxOk] at h
    rw [flatT] at hk
    rcases List.mem_cons.1 hk with rfl | hk
    · exact h.1
    · exact flatTL_ok (d + 1) ks h.2.2 k hk
theorem flatTL_ok (d : Nat) : ∀ l : List T, TxOkL l → ∀ k ∈ flatTL d l, k.2.1.size ≤ 281474976710656
  | [], _, k, hk => by rw [flatTL] at hk; cases hk
  | t :: l, h, k, hk => by
    rw [TxOkL] at h
    rw [flatTL] at hk
    rcases List.mem_append.1 hk with hk | hk
    · exact flatT_ok d t h.1 k hk
    · exact flatTL_ok d l h.2 k hk
end
structure LtI (b2 : Nat) (pre : List (Nat × Nd)) (C : Nat → Prop) (W : World) : Prop where
  c : C = fun k => k = b2
  ic : IC W b2 0
  all : ∀ x ∈ pre, ltrs x.2.op = true
structure LtX (b2 : Nat) (cd : Code) (pre : List (Nat × Nd)) (C : Nat → Prop) (W : World) : Prop where
  cd : cd = .ret
  c : C = fun k => k = b2
  ic : IC W b2 (-1)
  ex : ∃ x ∈ pre, ltrs x.2.op = false
/-- What stands at a node's four cells of a block of its own. -/
def At4 (W : World) (bx : Nat) (n : Nd) : Prop := W.heap[bx]? = some (.cells #[.string n.op, .string n.tx, .int .i64 n.pl, .slice n.kp n.kn n.kc] 25 (0, 0))
set_option maxHeartbeats 16000000 in
set_option maxRecDepth 100000 in
theorem letters_any (nd : Nd) (t : T) (b : Nat) (w : World) (h : VT w b nd t) (hz : t.size ≤ 1000) (hx : TxOk t) :
    Calls Tryd.prog 21 #[nd.val] w fun e w' => e = .returned (.int .i64 (if lettersT t then 0 else -1)) ∧ Below w.heap.size w w' := by
  obtain ⟨op, tx, pl, kp, kn, kc⟩ := nd
  have hb1 : Below w.heap.size w ((w.alloc (.cells #[.string op, .string tx, .int .i64 pl, .slice kp kn kc] 25)).alloc (.cells #[.int .i64 0] 3)) := ((Below.refl _ _).alloc (Nat.le_refl _) _).alloc (by simp) _
  have hz1 : ((w.alloc (.cells #[.string op, .string tx, .int .i64 pl, .slice kp kn kc] 25)).alloc (.cells #[.int .i64 0] 3)).heap.size = w.heap.size + 2 := by simp
  have hi1 : IC ((w.alloc (.cells #[.string op, .string tx, .int .i64 pl, .slice kp kn kc] 25)).alloc (.cells #[.int .i64 0] 3)) (w.heap.size + 1) 0 := by
    have := IC.new (w.alloc (.cells #[.string op, .string tx, .int .i64 pl, .slice kp kn kc] 25)) 0
    rw [World.size_alloc] at this
    exact this
  have C := Lib.hid (all_call ⟨op, tx, pl, kp, kn, kc⟩ t b _ (h.next hb1) hz hx)
  have HB1 := Lib.hid hb1
  have HZ1 := Lib.hid hz1
  have HI1 := Lib.hid hi1
  have HFT := Lib.hid (flatT_ok 0 t hx)
  have HX := Lib.hid hx
  simp only [Nd.val] at C ⊢
  clear h hb1 hz1 hi1 hx
  obtain ⟨v, hv⟩ : ∃ v, v = (if lettersT t then (0 : Int) else -1) := ⟨_, rfl⟩
  rw [← hv]
  have HV := Lib.hid hv
  clear hv
  refine (callsIn_wide (n := 6)).1 ?_
  refine callsIn_of_wp_marks Tryd.func21 rfl trivial ?_ rfl
  simp only [Tryd.ntmps21, List.size_toArray, List.length_cons, List.length_nil, Nat.reduceAdd, Nat.reduceSub, Array.replicate_succ, Array.replicate_zero, List.push_toArray, List.append_toArray, List.nil_append, List.cons_append]
  refine wpIn_wide.2 ?_
  go_wp2_with fail
  refine C.out.mono ?_
  rintro e w5 ⟨bh, m2, rfl, hbh, hnh, hvh, hb5⟩
  have hi5 := HI1.out.next hb5
  have hz5 := hb5.size
  rw [HZ1.out] at hz5 hbh hvh
  have HB5 := Lib.hid (HB1.out.trans (hb5.mono HB1.out.size))
  have hbh5 := hnh.lt
  clear hb5 C HI1 HB1 HZ1
  dsimp only
  go_wp2_with fail
  refine (wpIn_wide (n := 6)).1 ?_
  refine wpIn_rangeA (F := Fence.wide) rfl (by omega) (gf := 27) (lb := #[.pointer (some ⟨bh, 0, none⟩)]) rfl trivial (enters_of Tryd.func27 (by kernel_rfl) rfl)
    (all_seq hnh hvh hz HX.out _ (by omega)) (Below.refl _ _) (fun _ => rfl) (fun k => k = w.heap.size + 1) (fun k hk hc => by rcases hk with h | h <;> omega) (fun k hk => by rcases hk with h | h <;> omega) (fun k hc => by omega)
    (LtI (w.heap.size + 1))
    (LtX (w.heap.size + 1)) ?hI ?hIx ⟨rfl, hi5, fun x hx => by cases hx⟩ (fun x a' W => ∃ bx, a' = ({ tmps := #[.agg #[.string op, .string tx, .int .i64 pl, .slice kp kn kc], .pointer (some ⟨w.heap.size, 0, none⟩), .pointer (some ⟨w.heap.size + 1, 0, none⟩), undef, .pointer (some ⟨bx, 0, none⟩), undef, .agg #[.string op, .string tx, .int .i64 pl, .slice kp kn kc], .func (.func 27) #[] #[.pointer (some ⟨bh, 0, none⟩)], .int .i64 (x.1 : Int), x.2.val, undef, undef, undef, undef, undef, undef, undef, undef, undef, undef, undef, undef, undef, undef, undef, undef, undef, undef, undef], defers := [] } : Act) ∧ At4 W bx x.2) ?hA ?assign ?body ?done ?stop
  case hI =>
    rintro pre C A B ⟨rfl, h1, h3⟩ hs
    exact ⟨rfl, h1.kept (hs.block _ rfl), h3⟩
  case hIx =>
    rintro cd pre C A B ⟨hcd, rfl, h1, h2⟩ hs
    exact ⟨hcd, rfl, h1.kept (hs.block _ rfl), h2⟩
  case hA =>
    rintro x a' W r ob ⟨bx, ha, hbx⟩ hlr
    exact ⟨bx, ha, (World.putObj_heap_other (fun e => by subst e; unfold At4 at hbx; rw [hlr] at hbx; cases hbx)).trans hbx⟩
  case assign =>
    rintro l' ⟨xd, x1, x2, x3, x4, x5, x6⟩ W K hK
    obtain ⟨bx, hbx⟩ : ∃ bx, bx = W.heap.size := ⟨_, rfl⟩
    simp only [encY, Nd.val]
    gi_wp2_with fail
    rw [← hbx]
    refine hK _ _ ((Below.refl _ _).alloc (Nat.le_refl _) _) ⟨bx, ?_, ?_⟩
    · rfl
    · rw [hbx]; exact as_heap_alloc _ _
  case body =>
    rintro l' pre ⟨xd, x1, x2, x3, x4, x5, x6⟩ C a' W ⟨rfl, hic, hall⟩ ⟨bx, rfl, hbx⟩ hcz hcm hf hlen hsp
    have hsz : x1.size ≤ 281474976710656 := HFT.out _ (hsp.subset (show keyY (xd, ⟨x1, x2, x3, x4, x5, x6⟩) ∈ _ by simp))
    unfold At4 at hbx
    simp only at hbx hsz
    have c0 : W.cell? ⟨bx, 0, none⟩ = some (.string x1) := as_cell hbx
    have HIC := Lib.hid hic
    have HALL := Lib.hid hall
    have hlt2 := hic.lt
    have hr0 := hic.c
    have hr1 := hic.f
    have HNO : Hid (∀ (i : Nat) (h : i < x1.size), ¬ (97 ≤ x1[i].toNat ∧ x1[i].toNat ≤ 122) → ltrs x1 = false) := Lib.hid (fun i h hn => ltrs_no h hn)
    have HYES : Hid ((∀ (j : Nat) (h : j < x1.size), ltr x1[j] = true) → ltrs x1 = true) := Lib.hid (ltrs_iff x1).2
    clear hic hall hbx hcz hcm hf hlen hsp
    simp only [Nd.val]
    have hend : ∀ (a : Act), ltrs x1 = false → ownPostC (LtI (w.heap.size + 1)) (LtX (w.heap.size + 1)) (fun k => k = w.heap.size + 1) (pre ++ [(xd, ⟨x1, x2, x3, x4, x5, x6⟩)]) W .ret a (W.setCell ⟨w.heap.size + 1, 0, none⟩ (.int .i64 (-1))) := fun a h =>
      ⟨_, fun k hk => Or.inl hk, fun k hk => by subst hk; rw [World.size_setCell]; exact hlt2, ⟨rfl, rfl, rfl, by rw [World.size_setCell]; exact Nat.le_refl _, fun k _ hn => Below.heap_setCell W ⟨w.heap.size + 1, 0, none⟩ _ k hn⟩, ⟨rfl, rfl, HIC.out.set _, (xd, ⟨x1, x2, x3, x4, x5, x6⟩), by simp, h⟩⟩
    have HEND := Lib.hid hend
    clear hend
    gi_wp2_with fail
    gi_loopw [5] (fun iv wr => ∃ i : Nat, i ≤ x1.size ∧ iv = .int .i64 (i : Int) ∧ wr = W ∧ Hid (∀ (j : Nat) (h : j < x1.size), j < i → ltr x1[j] = true)) (fun iv _ => x1.size - (intOf iv).toNat)
    case atStart => exact ⟨0, Nat.zero_le _, by simp, rfl, Lib.hid (fun j h h2 => by omega)⟩
    case round =>
      obtain ⟨i, hi, rfl, rfl, HS⟩ := hrel
      by_cases hc : i < x1.size
      · have hki : (i : Int) < (x1.size : Int) := by omega
        have hix := fun W => run_ix x1 i hc W
        by_cases hg : 97 ≤ x1[i].toNat ∧ x1[i].toNat ≤ 122
        · have HS2 : Hid (∀ (j : Nat) (h : j < x1.size), j < i + 1 → ltr x1[j] = true) := Lib.hid (fun j h h2 => by
            by_cases e : j = i
            · subst e; exact (ltr_iff _).2 hg
            · exact HS.out j h (by omega))
          have g1 : ¬ ((x1[i].toNat : Nat) : Int) < 97 := by omega
          have g2 : ¬ (122 : Int) < ((x1[i].toNat : Nat) : Int) := by omega
          clear HS hg
          generalize x1[i].toNat = cc at *
          gi_wp2_with fail
          go_roundw
          case rel => exact ⟨i + 1, by omega, by simp, trivial, HS2⟩
          case measure => simp [intOf]; omega
        · have HE := Lib.hid (HNO.out i hc hg)
          clear HS
          by_cases g1 : ((x1[i].toNat : Nat) : Int) < 97
          · clear hg
            generalize x1[i].toNat = cc at *
            gi_wp2_with fail
            exact HEND.out _ HE.out
          · have g2 : (122 : Int) < ((x1[i].toNat : Nat) : Int) := by omega
            clear hg
            generalize x1[i].toNat = cc at *
            gi_wp2_with fail
            exact HEND.out _ HE.out
      · obtain rfl : i = x1.size := by omega
        have hki : ¬ (x1.size : Int) < (x1.size : Int) := by omega
        have HY := Lib.hid (HYES.out (fun j h => HS.out j h h))
        clear HS
        gi_wp2_with fail
        exact ⟨_, fun k hk => Or.inl hk, fun k hk => by subst hk; exact hlt2, Came.refl _ _, ⟨rfl, HIC.out, fun y hy => by
          rcases List.mem_append.1 hy with hy | hy
          · exact HALL.out y hy
          · obtain rfl := List.mem_singleton.1 hy; exact HY.out⟩⟩
  case done =>
    rintro D xs C W hS ⟨rfl, hic, hall⟩ hcm hf rfl hD hsz
    have HL : Hid (v = 0) := Lib.hid (HV.out.trans (if_pos (by
      unfold lettersT
      rw [← hS, List.all_map, List.all_eq_true]
      exact hall)))
    have hb6 := HB5.out.trans (hcm.below (n := w.heap.size) HB5.out.size (fun k hk => by omega))
    have HD := Lib.hid hD
    have HB6 := Lib.hid hb6
    have HIC := Lib.hid hic
    have hr0 := hic.c
    have hr1 := hic.f
    have hz5b := hb6.size
    clear hb6 hcm hf hD hsz hic hall hS
    dsimp only
    go_wp2_with fail
    obtain ⟨Wz, hWz⟩ : ∃ Wz, Wz = W.setCell ⟨w.heap.size + 1, 0, none⟩ (.int .i64 0) := ⟨_, rfl⟩
    have F1 : Wz.heap[w5.heap.size]? = some (.deferred (some [])) := by rw [hWz]; exact (Below.heap_setCell W ⟨w.heap.size + 1, 0, none⟩ _ _ (by show w5.heap.size ≠ w.heap.size + 1; omega)).trans HD.out
    have hbz : Below w.heap.size w Wz := by rw [hWz]; exact HB6.out.setCell (p := ⟨w.heap.size + 1, 0, none⟩) (by show w.heap.size ≤ w.heap.size + 1; omega) _
    have cf : (Wz.putObj w5.heap.size (.deferred none)).cell? ⟨w.heap.size + 1, 0, none⟩ = some (.int .i64 0) := by
      rw [World.cell?_of_block (a := ⟨w.heap.size + 1, 0, none⟩) (World.putObj_heap_other (by show w.heap.size + 1 ≠ w5.heap.size; omega)), hWz]
      exact (HIC.out.set 0).c
    try rw [← hWz]
    refine ⟨by simp, .inl ⟨_, _, rfl, run_takeDeferred F1, ?_⟩⟩
    refine ⟨.int .i64 0, ?_, by rw [HL.out], below_put hbz HB5.out.size _⟩
    simp [results, Tryd.results21, go_sem, cf]
  case stop =>
    rintro D cd pre C W hpre ⟨rfl, rfl, hic, y, hy, hno⟩ hcm hf rfl hD hsz
    have HL : Hid (v = -1) := Lib.hid (HV.out.trans (if_neg (by
      intro h
      unfold lettersT at h
      rw [List.all_eq_true] at h
      have := h (keyY y) (hpre.subset (List.mem_map.2 ⟨y, hy, rfl⟩))
      simp only [keyY] at this
      rw [hno] at this
      cases this)))
    have hb6 := HB5.out.trans (hcm.below (n := w.heap.size) HB5.out.size (fun k hk => by omega))
    have HD := Lib.hid hD
    have HB6 := Lib.hid hb6
    have HIC := Lib.hid hic
    have hz5b := hb6.size
    clear hb6 hcm hf hD hsz hpre hy hno
    refine wpIn_wide.2 ?_
    go_wp2_with fail
    have cf : (W.putObj w5.heap.size (.deferred none)).cell? ⟨w.heap.size + 1, 0, none⟩ = some (.int .i64 (-1)) := by
      rw [World.cell?_of_block (a := ⟨w.heap.size + 1, 0, none⟩) (World.putObj_heap_other (by show w.heap.size + 1 ≠ w5.heap.size; omega))]
      exact HIC.out.c
    refine ⟨by simp, .inl ⟨_, _, rfl, run_takeDeferred HD.out, ?_⟩⟩
    refine ⟨.int .i64 (-1), ?_, by rw [HL.out], below_put HB6.out HB5.out.size _⟩
    simp [results, Tryd.results21, go_sem, cf]
end Go.Proofs.YtgahamppfdhnaaaDoor
