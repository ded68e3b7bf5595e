/-
  THE ITERATOR of an array's entries as one that changes nothing between two rounds.
-/
import Derived.Test.YtjnhaglcigpknaaDoorSeqQ
import Derived.Test.YtjnhaglcigpknaaDoorArEach
namespace Go.Proofs.YtjnhaglcigpknaaDoor
open Go.RowKit Go.Shelf
attribute [local go_sem] Oper.semAt_some

/-- What the iterator reads. -/
def KpE (bs b : Nat) (mm : Option Nat) (L : List En) (W : World) : Prop := W.heap[bs]? = some (.cells #[.pointer (some ⟨b, 0, none⟩)] 23 (0, 0)) ∧ AV W b mm L
theorem each_callQ (b : Nat) (w : World) :
    Calls Tryd.prog 18 #[.pointer (some ⟨b, 0, none⟩)] w fun e w' => ∃ bs, e = .returned (.func (.func 34) #[] #[.pointer (some ⟨bs, 0, none⟩)]) ∧ w.heap.size ≤ bs ∧ w'.heap[bs]? = some (.cells #[.pointer (some ⟨b, 0, none⟩)] 23 (0, 0)) ∧ Below w.heap.size w w' := by
  go_enter Tryd.func18, Tryd.ntmps18
  go_wp2
  go_ret
  exact ⟨w.heap.size, rfl, Nat.le_refl _, heap_new _ _, (Below.refl _ _).alloc (Nat.le_refl _) _⟩
set_option maxHeartbeats 4000000 in
set_option maxRecDepth 100000 in
theorem each_seqQ {b : Nat} {mm : Option Nat} {L : List En} (bs n : Nat) (_hn : 1 ≤ n) :
    SeqQ Fence.wide n Tryd.prog 34 #[.pointer (some ⟨bs, 0, none⟩)] (fun e : En => #[.pointer (some ⟨e.g, 0, none⟩)]) (· = L) (· <+: L) (L.length + 1) (KpE bs b mm L) := by
  intro l J Jx W hK hY h0
  obtain ⟨hbs0, hAW⟩ := id hK
  have hbsW : W.cell? ⟨bs, 0, none⟩ = some (.pointer (some ⟨b, 0, none⟩)) := block_cell hbs0
  clear hbs0
  have hb1 : W.cell? ⟨b, 1, none⟩ = some (ptr (hd L none)) := block_cell hAW.blk
  obtain ⟨x1, hx1⟩ := ptr_is (hd L none)
  rw [hx1] at hb1
  refine callsIn_of_wp Tryd.func34 rfl trivial ?_ rfl
  simp only [Tryd.ntmps34, List.size_toArray, List.length_cons, List.length_nil, Nat.reduceAdd, Nat.reduceSub, Array.replicate_succ, Array.replicate_zero, List.push_toArray, List.append_toArray, List.nil_append, List.cons_append]
  have HYm := Lib.hid hY
  have HX1 := Lib.hid hx1
  have HAW := Lib.hid hAW
  have HK0 := Lib.hid hK
  have HDIS := Lib.hid hAW.dis
  clear hY hx1 hAW hK
  gi_wp2_with fail
  gi_loopw [3] (fun ev wr => ∃ (pre rest : List En), Hid (L = pre ++ rest) ∧ Hid (ev = ptr (hd rest none)) ∧ Hid (J pre wr) ∧ Hid (KpE bs b mm L wr))
    (fun ev _ => leftE L ev)
  case atStart =>
    exact ⟨[], L, Lib.hid rfl, Lib.hid HX1.out.symm, Lib.hid h0, HK0⟩
  case round =>
    obtain ⟨pre, rest, HL, HEV, HJ, HK⟩ := hrel
    cases rest with
    | nil =>
      have he := HEV.out
      rw [show ptr (hd ([] : List En) none) = .pointer none from rfl] at he
      subst he
      gi_wp2_with fail
      go_end0
      exact ⟨⟨_, rfl⟩, HK.out, .inl ⟨pre, by rw [HL.out, List.append_nil], HJ.out⟩⟩
    | cons e r =>
      have he := HEV.out
      rw [show ptr (hd (e :: r) none) = .pointer (some ⟨e.g, 0, none⟩) from rfl] at he
      subst he
      have hdis := HDIS.out
      rw [HL.out] at hdis
      have HM := Lib.hid (leftE_mid (A := pre) (B := r) (e := e) (fun x hx => (hdis.mid.1 x hx).1))
      rw [← HL.out] at HM
      have hpl : pre.length < L.length + 1 := by rw [HL.out]; simp; omega
      obtain ⟨fn, tmps, assign, body, hy, hR⟩ := HYm.out pre e wr HJ.out HK.out hpl ⟨r, by rw [HL.out]; simp⟩
      have HR := Lib.hid hR
      clear hR hdis
      gi_wp2_with fail
      refine HR.out.mono ?_
      rintro e1 W3 ⟨hk3, (⟨rfl, hJ3⟩ | ⟨rfl, hJ3⟩)⟩
      · have heL : e ∈ L := by rw [HL.out]; simp
        have hlk := hk3.2.lnk
        rw [HL.out] at hlk
        have hen := (((Lnk_append pre (e :: r) none none).1 hlk).2).1
        have d5 : W3.cell? ⟨e.g, 5, none⟩ = some (ptr (hd r none)) := block_cell hen
        obtain ⟨nx, hnx⟩ := ptr_is (hd r none)
        rw [hnx] at d5
        have HLM : Hid (leftE L (.pointer nx) < leftE L (.pointer (some ⟨e.g, 0, none⟩))) := Lib.hid (by
          rw [HM.out]
          cases r with
          | nil =>
            have : nx = none := by injection hnx.symm with h
            rw [this, leftE_nil]; simp
          | cons e2 r2 =>
            have h2 : nx = some ⟨e2.g, 0, none⟩ := by injection hnx.symm with h
            have hdis := HDIS.out
            rw [HL.out] at hdis
            have hd2 : Dis ((pre ++ [e]) ++ e2 :: r2) := by simpa using hdis
            have := leftE_mid (A := pre ++ [e]) (B := r2) (e := e2) (fun x hx => (hd2.mid.1 x hx).1)
            rw [h2, HL.out, show pre ++ e :: e2 :: r2 = (pre ++ [e]) ++ e2 :: r2 by simp, this]
            simp)
        have HREL : Hid (∃ (pre' rest' : List En), Hid (L = pre' ++ rest') ∧ Hid (.pointer nx = ptr (hd rest' none)) ∧ Hid (J pre' W3) ∧ Hid (KpE bs b mm L W3)) := Lib.hid
          ⟨pre ++ [e], r, Lib.hid (by rw [HL.out]; simp), Lib.hid hnx.symm, Lib.hid hJ3, Lib.hid hk3⟩
        clear hk3 hJ3 hnx hlk hen HR hy heL
        gi_wp2_with fail
        go_roundw
        case rel => exact HREL.out
        case measure => exact HLM.out
      · have HK3 := Lib.hid hk3
        clear hk3
        gi_wp2_with fail
        refine bodyPost_ret (results_none rfl _ _ _) rfl ?_
        exact ⟨⟨_, rfl⟩, HK3.out, .inr ⟨_, ⟨r, by rw [HL.out]; simp⟩, hJ3⟩⟩
/-- The loop's record isn't what the iterator reads. -/
theorem KpE.put {bs b : Nat} {mm : Option Nat} {L : List En} {W : World} {k : Nat} {r : Loop} (h : KpE bs b mm L W) (hl : W.heap[k]? = some (.loop r)) (o : Obj) : KpE bs b mm L (W.putObj k o) := by
  have hne : ∀ (j : Nat) (x : Obj), W.heap[j]? = some x → (∀ r, x ≠ .loop r) → (W.putObj k o).heap[j]? = W.heap[j]? := fun j x hj hx =>
    World.putObj_heap_other (fun e => by subst e; rw [hl] at hj; exact hx r (Option.some.inj hj).symm)
  refine ⟨(hne _ _ h.1 (fun r h => by cases h)).trans h.1, h.2.kept fun j hj => ?_⟩
  · rcases hj with rfl | hj | ⟨e, he, rfl⟩
    · exact hne _ _ h.2.blk (fun r h => by cases h)
    · subst hj
      obtain ⟨D, h1, _⟩ := h.2.map
      obtain ⟨es, ck, h2⟩ := ownsMap_block h1
      exact hne _ _ h2 (fun r h => by cases h)
    · obtain ⟨_, p, q, h1⟩ := h.2.lnk.lt e he
      exact hne _ _ h1 (fun r h => by cases h)
end Go.Proofs.YtjnhaglcigpknaaDoor
