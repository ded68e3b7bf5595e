/-
  CONTRACT of layer 8's Write, of any array.
-/
import Derived.Test.YtjnhaglcigpknaaDoorArW8
import Derived.Test.YtjnhaglcigpknaaDoorArEachQ
namespace Go.Proofs.YtjnhaglcigpknaaDoor
open Go.RowKit Go.Maps
attribute [local go_sem] Oper.semAt_some

def encE (e : En) : List UInt8 := pT e.key ++ encC e.c
def encL (L : List En) : List UInt8 := L.flatMap encE
theorem encL_snoc (pre : List En) (x : En) : encL (pre ++ [x]) = encL pre ++ encE x := by simp [encL]
/-- Keys and values that are small. -/
def smE (e : En) : Prop := e.key.size ≤ 10000 ∧ e.c.s.size ≤ 10000 ∧ (-9223372036854775808 ≤ e.c.k ∧ e.c.k ≤ 9223372036854775807) ∧ -9223372036854775808 ≤ e.c.n ∧ e.c.n ≤ 9223372036854775807
theorem pT_len (s : ByteArray) (h : s.size ≤ 10000) : (pT s).length ≤ 10022 := by
  have := itoa_len (s.size : Int) (by omega) (by omega)
  simp [pT]; omega
theorem encE_len {e : En} (h : smE e) : (encE e).length ≤ 21000 := by
  obtain ⟨h1, h2, ⟨h3, h4⟩, h5, h6⟩ := h
  have a1 := pT_len e.key h1
  have a2 := pT_len e.c.s h2
  have a3 := pI_len e.c.k h3 h4
  have a4 := pI_len e.c.n h5 h6
  unfold encE encC
  rw [List.length_append, List.length_append]
  split
  · omega
  · split
    · omega
    · simp; omega
theorem encL_len : ∀ (L : List En), (∀ e ∈ L, smE e) → (encL L).length ≤ 21000 * L.length
  | [], _ => by simp [encL]
  | e :: L, h => by
    have h1 := encE_len (h e (by simp))
    have h2 := encL_len L (fun x hx => h x (List.mem_cons_of_mem _ hx))
    have h3 : encL (e :: L) = encE e ++ encL L := rfl
    rw [h3, List.length_append, List.length_cons]
    omega
/-- What the Writer's calls leave of the array. -/
theorem KpE.wfr {bs b wb B : Nat} {mm : Option Nat} {L : List En} {W W' : World} (h : KpE bs b mm L W) (hf : WFr wb B W W') (h1 : bs ≠ wb) (h2 : ¬ Own b mm L wb) : KpE bs b mm L W' := by
  have hne : ∀ (j : Nat) (x : Obj), W.heap[j]? = some x → j ≠ wb → (∀ c fz, x ≠ .cells c 5 fz) → W'.heap[j]? = W.heap[j]? := fun j x hj hn hx =>
    (hf.others j x hj (by intro e; injection e with e; exact hn e) hx).trans hj.symm
  refine ⟨(hne _ _ h.1 h1 (fun c fz e => by injection e with e1 e2 e3; cases e2)).trans h.1, h.2.kept fun j hj => ?_⟩
  have hn : j ≠ wb := fun e => h2 (e ▸ hj)
  rcases hj with rfl | hj | ⟨e, he, rfl⟩
  · exact hne _ _ h.2.blk hn (fun c fz e => by injection e with e1 e2 e3; cases e2)
  · subst hj
    obtain ⟨D, q1, _⟩ := h.2.map
    obtain ⟨es, ck, q2⟩ := ownsMap_block q1
    exact hne _ _ q2 hn (fun c fz e => by cases e)
  · obtain ⟨_, p, q, q1⟩ := h.2.lnk.lt e he
    exact hne _ _ q1 hn (fun c fz e => by injection e with e1 e2 e3; cases e2)
theorem KpE.next {bs b : Nat} {mm : Option Nat} {L : List En} {W W' : World} (h : KpE bs b mm L W) (hb : Below W.heap.size W W') : KpE bs b mm L W' :=
  ⟨(hb.block bs (block_lt h.1)).trans h.1, h.2.next hb⟩
theorem ent_allQ {w : World} {b : Nat} {mm : Option Nat} {L : List En} (h : AV w b mm L) {e : En} (he : e ∈ L) : ∃ p q : Value, w.heap[e.g]? = some (.cells #[.string e.key, .int .i64 e.c.k, .int .i64 e.c.n, .string e.c.s, p, q] 58 (0, 0)) ∧ e.g < w.heap.size := by
  obtain ⟨h1, p, q, h2⟩ := h.lnk.lt e he
  exact ⟨_, _, h2, h1⟩
theorem Wr.putQ {w : World} {wb B k : Nat} {l : List UInt8} {o0 : Obj} (h : Wr w wb B l) (hk : w.heap[k]? = some o0) (hn : ∀ c e fz, o0 ≠ .cells c e fz) (hw : wb ≠ k) (o : Obj) : Wr (w.putObj k o) wb B l := by
  obtain ⟨v, h1, h2, h3, h4, h5⟩ := h
  refine ⟨v, (World.cell?_of_block (a := ⟨wb, 0, none⟩) (World.putObj_heap_other hw)).trans h1, (World.frozen?_of_block (a := ⟨wb, 0, none⟩) (World.putObj_heap_other hw)).trans h2, own_keptA h3 (fun g hg => World.putObj_heap_other (fun e => ?_)), h4, by rw [World.putObj_size]; exact h5⟩
  subst e
  obtain ⟨_, c, fz, hh⟩ := ownsRow_kind h3 g hg
  rw [hk] at hh
  exact hn _ _ _ (Option.some.inj hh)
theorem WFr.putQ {b B k : Nat} {u w : World} (h : WFr b B u w) (hB : B ≤ u.heap.size) (hk : u.heap.size ≤ k) (o : Obj) : WFr b B u (w.putObj k o) :=
  ⟨h.os, h.tape, h.output, by rw [World.putObj_size]; exact h.size, fun j hj hn => (World.putObj_heap_other (by omega)).trans (h.block j hj hn), fun j x hj hb hx => (World.putObj_heap_other (by have : j < u.heap.size := block_lt hj; omega)).trans (h.others j x hj hb hx)⟩
set_option maxHeartbeats 8000000 in
set_option maxRecDepth 100000 in
theorem awrite_any {w : World} {b : Nat} {mm : Option Nat} {L : List En} (h : AV w b mm L) (hs : ∀ e ∈ L, smE e) {B0 wb B : Nat} {l : List UInt8} (hw : Wr w wb B l) (hl : l.length ≤ 1000000) (hwb : ¬ Own b mm L wb) (hB0 : B0 ≤ wb)
    (htab : Lib.TabBelow Tryd.prog wb w "internal/strconv.uint64pow10" .u64 Lib.pow10Tab) :
    Calls Tryd.prog 5 #[.pointer (some ⟨b, 0, none⟩), .pointer (some ⟨wb, 0, none⟩)] w fun e w' => e = .returned (.tuple #[]) ∧ Wr w' wb B (l ++ [40] ++ encL L ++ [41]) ∧ Below B0 w w' ∧ AV w' b mm L ∧ WFr wb B w w' := by
  have HA := Lib.hid h
  have HW := Lib.hid hw
  have HS := Lib.hid hs
  have HT := Lib.hid htab
  have hfew := h.few
  clear h hw hs htab
  refine (callsIn_wide (n := 6)).1 ?_
  refine callsIn_of_wp_marks Tryd.func5 rfl trivial ?_ rfl
  simp only [Tryd.ntmps5, List.size_toArray, List.length_cons, List.length_nil, Nat.reduceAdd, Nat.reduceSub, Array.replicate_succ, Array.replicate_zero, List.push_toArray, List.append_toArray, List.nil_append, List.cons_append]
  have t2 : Fence.wide.fn 18 := trivial
  have t3 : Fence.wide.fn 19 := trivial
  have t4 : Fence.wide.fn 20 := trivial
  gi_wp2_with fail
  have hbk : (w.alloc (.cells #[.pointer (some ⟨wb, 0, none⟩)] 29)).heap[w.heap.size]? = some (.cells #[.pointer (some ⟨wb, 0, none⟩)] 29 (0, 0)) := heap_new _ _
  have hbx : (w.alloc (.cells #[.pointer (some ⟨wb, 0, none⟩)] 29)).cell? ⟨w.heap.size, 0, none⟩ = some (.pointer (some ⟨wb, 0, none⟩)) := by simp [go_sem]
  have hba : Below w.heap.size w (w.alloc (.cells #[.pointer (some ⟨wb, 0, none⟩)] 29)) := (Below.refl _ _).alloc (Nat.le_refl _) _
  have hzz : (w.alloc (.cells #[.pointer (some ⟨wb, 0, none⟩)] 29)).heap.size = w.heap.size + 1 := by simp
  have HW1 := Lib.hid (HW.out.kept hba)
  have HA1 := Lib.hid (HA.out.next hba)
  have HB1 := Lib.hid hba
  generalize w.alloc (.cells #[.pointer (some ⟨wb, 0, none⟩)] 29) = W1 at *
  clear hba
  refine ⟨trivial, (callsIn_wide.2 (wopen_any wb B l W1 HW1.out (by omega))).mono ?_⟩
  rintro e w2 ⟨rfl, hw2, hf2⟩
  have hle := HW.out.le
  have hz12 : w.heap.size + 1 ≤ w2.heap.size := by have := hf2.size; omega
  have hbk2 : w2.heap[w.heap.size]? = some (.cells #[.pointer (some ⟨wb, 0, none⟩)] 29 (0, 0)) := hf2.others _ _ hbk (by intro e; injection e with e; omega) (fun c fz e => by injection e with e1 e2 e3; cases e2)
  have HX2 := Lib.hid hbk2
  have HB2 : Hid (WFr wb B w w2) := Lib.hid ((WFr.ofBelow HB1.out HW.out.le.2).trans hf2)
  have HA2 : Hid (AV w2 b mm L) := Lib.hid (by
    have hne : ∀ (j : Nat) (x : Obj), W1.heap[j]? = some x → j ≠ wb → (∀ c fz, x ≠ .cells c 5 fz) → w2.heap[j]? = W1.heap[j]? := fun j x hj hn hx =>
      (hf2.others j x hj (by intro e; injection e with e; exact hn e) hx).trans hj.symm
    refine HA1.out.kept fun j hj => ?_
    have hn : j ≠ wb := fun e => hwb (e ▸ hj)
    rcases hj with rfl | hj | ⟨e, he, rfl⟩
    · exact hne _ _ HA1.out.blk hn (fun c fz e => by injection e with e1 e2 e3; cases e2)
    · subst hj
      obtain ⟨D, q1, _⟩ := HA1.out.map
      obtain ⟨es, ck, q2⟩ := ownsMap_block q1
      exact hne _ _ q2 hn (fun c fz e => by cases e)
    · obtain ⟨_, p, q, q1⟩ := HA1.out.lnk.lt e he
      exact hne _ _ q1 hn (fun c fz e => by injection e with e1 e2 e3; cases e2))
  have HW2 := Lib.hid hw2
  have hbx2 : w2.cell? ⟨w.heap.size, 0, none⟩ = some (.pointer (some ⟨wb, 0, none⟩)) := block_cell hbk2
  clear hw2 hf2 hbk hbk2 hbx
  gi_wp2_with fail
  clear hbx2
  refine (callsIn_wide.2 (each_callQ b _)).mono ?_
  rintro e w5 ⟨bs, rfl, hbs0, hbs1, hb5⟩
  have HA5 := Lib.hid (HA2.out.next hb5)
  have HW5 := Lib.hid (HW2.out.kept hb5)
  have HX5 : Hid (w5.heap[w.heap.size]? = some (.cells #[.pointer (some ⟨wb, 0, none⟩)] 29 (0, 0))) := Lib.hid ((hb5.block w.heap.size (by omega)).trans HX2.out)
  have HF5 : Hid (WFr wb B w w5) := Lib.hid (HB2.out.trans (WFr.ofBelow hb5 (by have := HB2.out.size; omega)))
  have HBS := Lib.hid hbs1
  have hz5 := hb5.size
  clear hb5 HA1 HA2 HW1 HW2 HX2 HB2 hbs1
  dsimp only
  gi_wp2_with fail
  have hb6 : ∀ r : Loop, Below w5.heap.size w5 ((w5.alloc (.deferred (some []))).alloc (.loop r)) := fun r => ((Below.refl _ _).alloc (Nat.le_refl _) _).alloc (by simp) _
  refine wpIn_rangeQ (F := Fence.wide) rfl (by omega) (gf := 34) (lb := #[.pointer (some ⟨bs, 0, none⟩)]) rfl trivial (enters_of Tryd.func34 (by kernel_rfl) rfl)
    (each_seqQ (b := b) (mm := mm) (L := L) bs _ (by omega)) (fun _ => rfl) (fun W r o h hl => KpE.put h hl o)
    (fun pre W => Wr W wb B (l ++ [40] ++ encL pre) ∧ WFr wb B w5 W) (fun _ _ _ => False) ?hI (fun _ _ _ _ _ h _ => h) ?hK0 ?h0 ?a1 ?assign ?body ?done ?stop
  case hI =>
    rintro pre W r o ⟨h1, h2⟩ hlr
    exact ⟨h1.putQ hlr (fun _ _ _ e => by cases e) (by omega) o, h2.putQ (by omega) (by omega) o⟩
  case hK0 =>
    intro r
    exact ⟨((hb6 r).block bs (block_lt HBS.out)).trans HBS.out, HA5.out.next (hb6 r)⟩
  case h0 =>
    intro r
    exact ⟨by simpa [encL] using HW5.out.kept (hb6 r), WFr.ofBelow (hb6 r) (by omega)⟩
  case assign =>
    intro l' x W K hK
    gi_wp2
    exact hK
  case stop => rintro D c pre W _ h; exact h.elim
  case body =>
    rintro l' pre x W ⟨hw, hf⟩ hkp ⟨r, hlr⟩ hD hlen hsp
    have hxL : x ∈ L := hsp.subset (by simp)
    have HXL := Lib.hid hxL
    have HSX := Lib.hid (HS.out x hxL)
    have hpl : pre.length ≤ 1000 := by omega
    have HPL := encL_len pre (fun e he => HS.out e (hsp.subset (by simp [he])))
    have HLN : (l ++ [40] ++ encL pre).length ≤ 30000000 := by
      rw [List.length_append, List.length_append, List.length_singleton]; omega
    have hks : x.key.size ≤ 10000 := HSX.out.1
    have hkil := itoa_len (x.key.size : Int) (by omega) (by omega)
    have HNB : Hid (bs ≠ wb) := Lib.hid (by have := HF5.out.size; omega)
    have HD0 := Lib.hid hD
    have HL0 := Lib.hid hlr
    have hWV : Below W.heap.size W W.drew := ⟨rfl, rfl, rfl, Nat.le_refl _, fun _ _ => rfl⟩
    obtain ⟨V, hV⟩ : ∃ V, V = W.drew := ⟨_, rfl⟩
    rw [← hV] at hWV
    have HFV := Lib.hid (hf.trans (WFr.ofBelow hWV (by have := hf.size; omega)))
    have HWV := Lib.hid (hw.kept hWV)
    have HKV := Lib.hid (KpE.next hkp hWV)
    have HDV := Lib.hid ((hWV.block _ (block_lt hD)).trans hD)
    have HLV := Lib.hid ((hWV.block _ (block_lt hlr)).trans hlr)
    have hbx : V.cell? ⟨w.heap.size, 0, none⟩ = some (.pointer (some ⟨wb, 0, none⟩)) := block_cell (HFV.out.others _ _ HX5.out (by intro e; injection e with e; omega) (fun c fz e => by injection e with e1 e2 e3; cases e2))
    obtain ⟨pa, pb, kx, _⟩ := ent_allQ HKV.out.2 HXL.out
    have k0 : V.cell? ⟨x.g, 0, none⟩ = some (.string x.key) := block_cell kx
    have k1 : V.cell? ⟨x.g, 1, none⟩ = some (.int .i64 x.c.k) := block_cell kx
    have k2 : V.cell? ⟨x.g, 2, none⟩ = some (.int .i64 x.c.n) := block_cell kx
    have k3 : V.cell? ⟨x.g, 3, none⟩ = some (.string x.c.s) := block_cell kx
    have HTV : Hid (Lib.TabBelow Tryd.prog wb V "internal/strconv.uint64pow10" .u64 Lib.pow10Tab) := Lib.hid (fun w' h' => HT.out w' (((HF5.out.trans HFV.out).below hle.1).trans h'))
    clear hWV kx
    have CT := Lib.hid (wtext_any wb B _ x.key V HWV.out (by omega) HTV.out)
    clear hw hf hkp hlr hD hlen hsp hxL HPL
    gi_wp2_with fail
    refine wpIn_region_any (by kernel_rfl) ?_
    change wpAnyIn _ _ _ _ _ _ _ _ _ (World.drew _)
    rw [← hV]
    clear hV
    refine wpAnyIn_ready (rs := [0, 1]) (by kernel_rfl) (by simp) ?_
    refine AllReadyIn.cons (o := _) rfl (fun K hK => ?_) ?_
    · go_simp
      refine hK _ _ ?_
      clear hK K
      try simp only [List.getElem_toArray, List.getElem_cons_zero, List.getElem_cons_succ, Act.put, List.setIfInBounds_toArray, List.set_cons_zero, List.set_cons_succ]
      refine wpAnyIn_ready (rs := [1]) (by kernel_rfl) (by simp) ?_
      refine AllReadyIn.cons (o := _) rfl (fun K hK => ?_) ?_
      · go_simp
        refine hK _ _ ?_
        clear hK K
        try simp only [List.getElem_toArray, List.getElem_cons_zero, List.getElem_cons_succ, Act.put, List.setIfInBounds_toArray, List.set_cons_zero, List.set_cons_succ]
        refine wpAnyIn_ready (rs := [2]) (by kernel_rfl) (by simp) ?_
        refine AllReadyIn.cons (o := _) rfl (fun K hK => ?_) ?_
        · go_simp
          refine hK _ _ ?_
          clear hK K
          try simp only [List.getElem_toArray, List.getElem_cons_zero, List.getElem_cons_succ, Act.put, List.setIfInBounds_toArray, List.set_cons_zero, List.set_cons_succ]
          refine wpAnyIn_ready (rs := [3]) (by kernel_rfl) (by simp) ?_
          refine AllReadyIn.cons (o := _) rfl (fun K hK => ?_) ?_
          · go_simp
            refine hK _ _ ?_
            clear hK K
            try simp only [List.getElem_toArray, List.getElem_cons_zero, List.getElem_cons_succ, Act.put, List.setIfInBounds_toArray, List.set_cons_zero, List.set_cons_succ]
            refine wpAnyIn_ready (rs := [4]) (by kernel_rfl) (by simp) ?_
            refine AllReadyIn.cons (o := _) rfl (fun K hK => ?_) ?_
            · go_simp
              refine hK _ _ ?_
              clear hK K
              try simp only [List.getElem_toArray, List.getElem_cons_zero, List.getElem_cons_succ, Act.put, List.setIfInBounds_toArray, List.set_cons_zero, List.set_cons_succ]
              refine wpAnyIn_ready (rs := [5]) (by kernel_rfl) (by simp) ?_
              refine AllReadyIn.cons (o := _) rfl (fun K hK => ?_) ?_
              · go_simp
                refine (callsIn_wide.2 CT.out).mono ?_
                rintro e w9 ⟨rfl, hw9, hf9⟩
                refine hK _ _ ?_
                clear hK K
                try simp only [List.getElem_toArray, List.getElem_cons_zero, List.getElem_cons_succ, Act.put, List.setIfInBounds_toArray, List.set_cons_zero, List.set_cons_succ]
                refine wpAnyIn_done (by kernel_rfl) ?_ _
                have hf9' := HFV.out.trans hf9
                have hnb : ∀ (j : Nat) (o : Obj), V.heap[j]? = some o → j ≠ wb → (∀ c e fz, o ≠ .cells c e fz) → w9.heap[j]? = some o := fun j o h1 h2 h3 => hf9.others _ _ h1 (by intro e; injection e with e; exact h2 e) (fun c fz => h3 c _ fz)
                have hkp9 := HKV.out.wfr hf9 HNB.out hwb
                have hD9 := hnb _ _ HDV.out (by omega) (fun c e fz e1 => by cases e1)
                have hL9 := hnb _ _ HLV.out (by omega) (fun c e fz e1 => by cases e1)
                clear hnb hf9 hbx k0 k1 k2 k3
                have hWV : Below w9.heap.size w9 w9.drew := ⟨rfl, rfl, rfl, Nat.le_refl _, fun _ _ => rfl⟩
                obtain ⟨U, hV⟩ : ∃ U, U = w9.drew := ⟨_, rfl⟩
                rw [← hV] at hWV
                have HFU := Lib.hid (hf9'.trans (WFr.ofBelow hWV (by have := hf9'.size; omega)))
                have HWU := Lib.hid (hw9.kept hWV)
                have HKU := Lib.hid (KpE.next hkp9 hWV)
                have HDU := Lib.hid ((hWV.block _ (block_lt hD9)).trans hD9)
                have HLU := Lib.hid ((hWV.block _ (block_lt hL9)).trans hL9)
                have hbx : U.cell? ⟨w.heap.size, 0, none⟩ = some (.pointer (some ⟨wb, 0, none⟩)) := block_cell (HFU.out.others _ _ HX5.out (by intro e; injection e with e; omega) (fun c fz e => by injection e with e1 e2 e3; cases e2))
                obtain ⟨pa, pb, kx, _⟩ := ent_allQ HKU.out.2 HXL.out
                have k0 : U.cell? ⟨x.g, 0, none⟩ = some (.string x.key) := block_cell kx
                have k1 : U.cell? ⟨x.g, 1, none⟩ = some (.int .i64 x.c.k) := block_cell kx
                have k2 : U.cell? ⟨x.g, 2, none⟩ = some (.int .i64 x.c.n) := block_cell kx
                have k3 : U.cell? ⟨x.g, 3, none⟩ = some (.string x.c.s) := block_cell kx
                have HTU : Hid (Lib.TabBelow Tryd.prog wb U "internal/strconv.uint64pow10" .u64 Lib.pow10Tab) := Lib.hid (fun w' h' => HT.out w' (((HF5.out.trans HFU.out).below hle.1).trans h'))
                clear hWV kx
                have CP := Lib.hid (aput_any wb B _ x.c U HWU.out (by simp; simp at HLN; omega) (by have := HSX.out.2.1; omega) HSX.out.2.2.1.1 HSX.out.2.2.1.2 HSX.out.2.2.2.1 HSX.out.2.2.2.2 HTU.out)
                clear hw9 hf9' hkp9 hD9 hL9 HFV HWV HKV HDV HLV HTV CT
                gi_wp2_with fail
                refine wpIn_region_any (by kernel_rfl) ?_
                change wpAnyIn _ _ _ _ _ _ _ _ _ (World.drew _)
                rw [← hV]
                clear hV
                refine wpAnyIn_ready (rs := [0, 1]) (by kernel_rfl) (by simp) ?_
                refine AllReadyIn.cons (o := _) rfl (fun K hK => ?_) ?_
                · go_simp
                  refine hK _ _ ?_
                  clear hK K
                  try simp only [List.getElem_toArray, List.getElem_cons_zero, List.getElem_cons_succ, Act.put, List.setIfInBounds_toArray, List.set_cons_zero, List.set_cons_succ]
                  refine wpAnyIn_ready (rs := [1]) (by kernel_rfl) (by simp) ?_
                  refine AllReadyIn.cons (o := _) rfl (fun K hK => ?_) ?_
                  · go_simp
                    refine hK _ _ ?_
                    clear hK K
                    try simp only [List.getElem_toArray, List.getElem_cons_zero, List.getElem_cons_succ, Act.put, List.setIfInBounds_toArray, List.set_cons_zero, List.set_cons_succ]
                    refine wpAnyIn_ready (rs := [2]) (by kernel_rfl) (by simp) ?_
                    refine AllReadyIn.cons (o := _) rfl (fun K hK => ?_) ?_
                    · go_simp
                      refine hK _ _ ?_
                      clear hK K
                      try simp only [List.getElem_toArray, List.getElem_cons_zero, List.getElem_cons_succ, Act.put, List.setIfInBounds_toArray, List.set_cons_zero, List.set_cons_succ]
                      refine wpAnyIn_ready (rs := [3]) (by kernel_rfl) (by simp) ?_
                      refine AllReadyIn.cons (o := _) rfl (fun K hK => ?_) ?_
                      · go_simp
                        refine hK _ _ ?_
                        clear hK K
                        try simp only [List.getElem_toArray, List.getElem_cons_zero, List.getElem_cons_succ, Act.put, List.setIfInBounds_toArray, List.set_cons_zero, List.set_cons_succ]
                        refine wpAnyIn_ready (rs := [4]) (by kernel_rfl) (by simp) ?_
                        refine AllReadyIn.cons (o := _) rfl (fun K hK => ?_) ?_
                        · go_simp
                          refine hK _ _ ?_
                          clear hK K
                          try simp only [List.getElem_toArray, List.getElem_cons_zero, List.getElem_cons_succ, Act.put, List.setIfInBounds_toArray, List.set_cons_zero, List.set_cons_succ]
                          refine wpAnyIn_ready (rs := [5]) (by kernel_rfl) (by simp) ?_
                          refine AllReadyIn.cons (o := _) rfl (fun K hK => ?_) ?_
                          · go_simp
                            refine (callsIn_wide.2 CP.out).mono ?_
                            rintro e w10 ⟨rfl, hw10, hf10⟩
                            refine hK _ _ ?_
                            clear hK K
                            try simp only [List.getElem_toArray, List.getElem_cons_zero, List.getElem_cons_succ, Act.put, List.setIfInBounds_toArray, List.set_cons_zero, List.set_cons_succ]
                            refine wpAnyIn_done (by kernel_rfl) ?_ _
                            gi_wp2_with fail
                            have HFZ := Lib.hid (HFU.out.trans hf10)
                            have hnb : ∀ (j : Nat) (o : Obj), U.heap[j]? = some o → j ≠ wb → (∀ c e fz, o ≠ .cells c e fz) → w10.heap[j]? = some o := fun j o h1 h2 h3 => hf10.others _ _ h1 (by intro e; injection e with e; exact h2 e) (fun c fz => h3 c _ fz)
                            refine ⟨⟨(hnb _ _ HDU.out (by omega) (fun c e fz e1 => by cases e1)).trans HD0.out.symm, ?_⟩, HKU.out.wfr hf10 HNB.out hwb, ?_, HFZ.out⟩
                            · refine (hnb _ _ HLU.out (by omega) (fun c e fz e1 => by cases e1)).trans HL0.out.symm
                            · have e1 : l ++ [40] ++ encL (pre ++ [x]) = l ++ [40] ++ encL pre ++ Lib.itoa x.key.size ++ [58] ++ x.key.data.toList ++ encC x.c := by rw [encL_snoc]; simp [encE, pT, List.append_assoc]
                              rw [e1]
                              exact hw10
                          exact AllReadyIn.nil
                        exact AllReadyIn.nil
                      exact AllReadyIn.nil
                    exact AllReadyIn.nil
                  exact AllReadyIn.nil
                refine AllReadyIn.cons (o := _) rfl (fun K hK => ?_) ?_
                · go_simp
                  refine hK _ _ ?_
                  clear hK K
                  try simp only [List.getElem_toArray, List.getElem_cons_zero, List.getElem_cons_succ, Act.put, List.setIfInBounds_toArray, List.set_cons_zero, List.set_cons_succ]
                  refine wpAnyIn_ready (rs := [0, 2]) (by kernel_rfl) (by simp) ?_
                  refine AllReadyIn.cons (o := _) rfl (fun K hK => ?_) ?_
                  · go_simp
                    refine hK _ _ ?_
                    clear hK K
                    try simp only [List.getElem_toArray, List.getElem_cons_zero, List.getElem_cons_succ, Act.put, List.setIfInBounds_toArray, List.set_cons_zero, List.set_cons_succ]
                    refine wpAnyIn_ready (rs := [2]) (by kernel_rfl) (by simp) ?_
                    refine AllReadyIn.cons (o := _) rfl (fun K hK => ?_) ?_
                    · go_simp
                      refine hK _ _ ?_
                      clear hK K
                      try simp only [List.getElem_toArray, List.getElem_cons_zero, List.getElem_cons_succ, Act.put, List.setIfInBounds_toArray, List.set_cons_zero, List.set_cons_succ]
                      refine wpAnyIn_ready (rs := [3]) (by kernel_rfl) (by simp) ?_
                      refine AllReadyIn.cons (o := _) rfl (fun K hK => ?_) ?_
                      · go_simp
                        refine hK _ _ ?_
                        clear hK K
                        try simp only [List.getElem_toArray, List.getElem_cons_zero, List.getElem_cons_succ, Act.put, List.setIfInBounds_toArray, List.set_cons_zero, List.set_cons_succ]
                        refine wpAnyIn_ready (rs := [4]) (by kernel_rfl) (by simp) ?_
                        refine AllReadyIn.cons (o := _) rfl (fun K hK => ?_) ?_
                        · go_simp
                          refine hK _ _ ?_
                          clear hK K
                          try simp only [List.getElem_toArray, List.getElem_cons_zero, List.getElem_cons_succ, Act.put, List.setIfInBounds_toArray, List.set_cons_zero, List.set_cons_succ]
                          refine wpAnyIn_ready (rs := [5]) (by kernel_rfl) (by simp) ?_
                          refine AllReadyIn.cons (o := _) rfl (fun K hK => ?_) ?_
                          · go_simp
                            refine (callsIn_wide.2 CP.out).mono ?_
                            rintro e w10 ⟨rfl, hw10, hf10⟩
                            refine hK _ _ ?_
                            clear hK K
                            try simp only [List.getElem_toArray, List.getElem_cons_zero, List.getElem_cons_succ, Act.put, List.setIfInBounds_toArray, List.set_cons_zero, List.set_cons_succ]
                            refine wpAnyIn_done (by kernel_rfl) ?_ _
                            gi_wp2_with fail
                            have HFZ := Lib.hid (HFU.out.trans hf10)
                            have hnb : ∀ (j : Nat) (o : Obj), U.heap[j]? = some o → j ≠ wb → (∀ c e fz, o ≠ .cells c e fz) → w10.heap[j]? = some o := fun j o h1 h2 h3 => hf10.others _ _ h1 (by intro e; injection e with e; exact h2 e) (fun c fz => h3 c _ fz)
                            refine ⟨⟨(hnb _ _ HDU.out (by omega) (fun c e fz e1 => by cases e1)).trans HD0.out.symm, ?_⟩, HKU.out.wfr hf10 HNB.out hwb, ?_, HFZ.out⟩
                            · refine (hnb _ _ HLU.out (by omega) (fun c e fz e1 => by cases e1)).trans HL0.out.symm
                            · have e1 : l ++ [40] ++ encL (pre ++ [x]) = l ++ [40] ++ encL pre ++ Lib.itoa x.key.size ++ [58] ++ x.key.data.toList ++ encC x.c := by rw [encL_snoc]; simp [encE, pT, List.append_assoc]
                              rw [e1]
                              exact hw10
                          exact AllReadyIn.nil
                        exact AllReadyIn.nil
                      exact AllReadyIn.nil
                    exact AllReadyIn.nil
                  refine AllReadyIn.cons (o := _) rfl (fun K hK => ?_) ?_
                  · go_simp
                    refine hK _ _ ?_
                    clear hK K
                    try simp only [List.getElem_toArray, List.getElem_cons_zero, List.getElem_cons_succ, Act.put, List.setIfInBounds_toArray, List.set_cons_zero, List.set_cons_succ]
                    refine wpAnyIn_ready (rs := [0, 3]) (by kernel_rfl) (by simp) ?_
                    refine AllReadyIn.cons (o := _) rfl (fun K hK => ?_) ?_
                    · go_simp
                      refine hK _ _ ?_
                      clear hK K
                      try simp only [List.getElem_toArray, List.getElem_cons_zero, List.getElem_cons_succ, Act.put, List.setIfInBounds_toArray, List.set_cons_zero, List.set_cons_succ]
                      refine wpAnyIn_ready (rs := [3]) (by kernel_rfl) (by simp) ?_
                      refine AllReadyIn.cons (o := _) rfl (fun K hK => ?_) ?_
                      · go_simp
                        refine hK _ _ ?_
                        clear hK K
                        try simp only [List.getElem_toArray, List.getElem_cons_zero, List.getElem_cons_succ, Act.put, List.setIfInBounds_toArray, List.set_cons_zero, List.set_cons_succ]
                        refine wpAnyIn_ready (rs := [4]) (by kernel_rfl) (by simp) ?_
                        refine AllReadyIn.cons (o := _) rfl (fun K hK => ?_) ?_
                        · go_simp
                          refine hK _ _ ?_
                          clear hK K
                          try simp only [List.getElem_toArray, List.getElem_cons_zero, List.getElem_cons_succ, Act.put, List.setIfInBounds_toArray, List.set_cons_zero, List.set_cons_succ]
                          refine wpAnyIn_ready (rs := [5]) (by kernel_rfl) (by simp) ?_
                          refine AllReadyIn.cons (o := _) rfl (fun K hK => ?_) ?_
                          · go_simp
                            refine (callsIn_wide.2 CP.out).mono ?_
                            rintro e w10 ⟨rfl, hw10, hf10⟩
                            refine hK _ _ ?_
                            clear hK K
                            try simp only [List.getElem_toArray, List.getElem_cons_zero, List.getElem_cons_succ, Act.put, List.setIfInBounds_toArray, List.set_cons_zero, List.set_cons_succ]
                            refine wpAnyIn_done (by kernel_rfl) ?_ _
                            gi_wp2_with fail
                            have HFZ := Lib.hid (HFU.out.trans hf10)
                            have hnb : ∀ (j : Nat) (o : Obj), U.heap[j]? = some o → j ≠ wb → (∀ c e fz, o ≠ .cells c e fz) → w10.heap[j]? = some o := fun j o h1 h2 h3 => hf10.others _ _ h1 (by intro e; injection e with e; exact h2 e) (fun c fz => h3 c _ fz)
                            refine ⟨⟨(hnb _ _ HDU.out (by omega) (fun c e fz e1 => by cases e1)).trans HD0.out.symm, ?_⟩, HKU.out.wfr hf10 HNB.out hwb, ?_, HFZ.out⟩
                            · refine (hnb _ _ HLU.out (by omega) (fun c e fz e1 => by cases e1)).trans HL0.out.symm
                            · have e1 : l ++ [40] ++ encL (pre ++ [x]) = l ++ [40] ++ encL pre ++ Lib.itoa x.key.size ++ [58] ++ x.key.data.toList ++ encC x.c := by rw [encL_snoc]; simp [encE, pT, List.append_assoc]
                              rw [e1]
                              exact hw10
                          exact AllReadyIn.nil
                        exact AllReadyIn.nil
                      exact AllReadyIn.nil
                    refine AllReadyIn.cons (o := _) rfl (fun K hK => ?_) ?_
                    · go_simp
                      refine hK _ _ ?_
                      clear hK K
                      try simp only [List.getElem_toArray, List.getElem_cons_zero, List.getElem_cons_succ, Act.put, List.setIfInBounds_toArray, List.set_cons_zero, List.set_cons_succ]
                      refine wpAnyIn_ready (rs := [0, 4]) (by kernel_rfl) (by simp) ?_
                      refine AllReadyIn.cons (o := _) rfl (fun K hK => ?_) ?_
                      · go_simp
                        refine hK _ _ ?_
                        clear hK K
                        try simp only [List.getElem_toArray, List.getElem_cons_zero, List.getElem_cons_succ, Act.put, List.setIfInBounds_toArray, List.set_cons_zero, List.set_cons_succ]
                        refine wpAnyIn_ready (rs := [4]) (by kernel_rfl) (by simp) ?_
                        refine AllReadyIn.cons (o := _) rfl (fun K hK => ?_) ?_
                        · go_simp
                          refine hK _ _ ?_
                          clear hK K
                          try simp only [List.getElem_toArray, List.getElem_cons_zero, List.getElem_cons_succ, Act.put, List.setIfInBounds_toArray, List.set_cons_zero, List.set_cons_succ]
                          refine wpAnyIn_ready (rs := [5]) (by kernel_rfl) (by simp) ?_
                          refine AllReadyIn.cons (o := _) rfl (fun K hK => ?_) ?_
                          · go_simp
                            refine (callsIn_wide.2 CP.out).mono ?_
                            rintro e w10 ⟨rfl, hw10, hf10⟩
                            refine hK _ _ ?_
                            clear hK K
                            try simp only [List.getElem_toArray, List.getElem_cons_zero, List.getElem_cons_succ, Act.put, List.setIfInBounds_toArray, List.set_cons_zero, List.set_cons_succ]
                            refine wpAnyIn_done (by kernel_rfl) ?_ _
                            gi_wp2_with fail
                            have HFZ := Lib.hid (HFU.out.trans hf10)
                            have hnb : ∀ (j : Nat) (o : Obj), U.heap[j]? = some o → j ≠ wb → (∀ c e fz, o ≠ .cells c e fz) → w10.heap[j]? = some o := fun j o h1 h2 h3 => hf10.others _ _ h1 (by intro e; injection e with e; exact h2 e) (fun c fz => h3 c _ fz)
                            refine ⟨⟨(hnb _ _ HDU.out (by omega) (fun c e fz e1 => by cases e1)).trans HD0.out.symm, ?_⟩, HKU.out.wfr hf10 HNB.out hwb, ?_, HFZ.out⟩
                            · refine (hnb _ _ HLU.out (by omega) (fun c e fz e1 => by cases e1)).trans HL0.out.symm
                            · have e1 : l ++ [40] ++ encL (pre ++ [x]) = l ++ [40] ++ encL pre ++ Lib.itoa x.key.size ++ [58] ++ x.key.data.toList ++ encC x.c := by rw [encL_snoc]; simp [encE, pT, List.append_assoc]
                              rw [e1]
                              exact hw10
                          exact AllReadyIn.nil
                        exact AllReadyIn.nil
                      refine AllReadyIn.cons (o := _) rfl (fun K hK => ?_) ?_
                      · go_simp
                        refine hK _ _ ?_
                        clear hK K
                        try simp only [List.getElem_toArray, List.getElem_cons_zero, List.getElem_cons_succ, Act.put, List.setIfInBounds_toArray, List.set_cons_zero, List.set_cons_succ]
                        refine wpAnyIn_ready (rs := [0]) (by kernel_rfl) (by simp) ?_
                        refine AllReadyIn.cons (o := _) rfl (fun K hK => ?_) ?_
                        · go_simp
                          refine hK _ _ ?_
                          clear hK K
                          try simp only [List.getElem_toArray, List.getElem_cons_zero, List.getElem_cons_succ, Act.put, List.setIfInBounds_toArray, List.set_cons_zero, List.set_cons_succ]
                          refine wpAnyIn_ready (rs := [5]) (by kernel_rfl) (by simp) ?_
                          refine AllReadyIn.cons (o := _) rfl (fun K hK => ?_) ?_
                          · go_simp
                            refine (callsIn_wide.2 CP.out).mono ?_
                            rintro e w10 ⟨rfl, hw10, hf10⟩
                            refine hK _ _ ?_
                            clear hK K
                            try simp only [List.getElem_toArray, List.getElem_cons_zero, List.getElem_cons_succ, Act.put, List.setIfInBounds_toArray, List.set_cons_zero, List.set_cons_succ]
                            refine wpAnyIn_done (by kernel_rfl) ?_ _
                            gi_wp2_with fail
                            have HFZ := Lib.hid (HFU.out.trans hf10)
                            have hnb : ∀ (j : Nat) (o : Obj), U.heap[j]? = some o → j ≠ wb → (∀ c e fz, o ≠ .cells c e fz) → w10.heap[j]? = some o := fun j o h1 h2 h3 => hf10.others _ _ h1 (by intro e; injection e with e; exact h2 e) (fun c fz => h3 c _ fz)
                            refine ⟨⟨(hnb _ _ HDU.out (by omega) (fun c e fz e1 => by cases e1)).trans HD0.out.symm, ?_⟩, HKU.out.wfr hf10 HNB.out hwb, ?_, HFZ.out⟩
                            · refine (hnb _ _ HLU.out (by omega) (fun c e fz e1 => by cases e1)).trans HL0.out.symm
                            · have e1 : l ++ [40] ++ encL (pre ++ [x]) = l ++ [40] ++ encL pre ++ Lib.itoa x.key.size ++ [58] ++ x.key.data.toList ++ encC x.c := by rw [encL_snoc]; simp [encE, pT, List.append_assoc]
                              rw [e1]
                              exact hw10
                          exact AllReadyIn.nil
                        exact AllReadyIn.nil
                      exact AllReadyIn.nil
                    exact AllReadyIn.nil
                  exact AllReadyIn.nil
                exact AllReadyIn.nil
              exact AllReadyIn.nil
            exact AllReadyIn.nil
          exact AllReadyIn.nil
        exact AllReadyIn.nil
      exact AllReadyIn.nil
    refine AllReadyIn.cons (o := _) rfl (fun K hK => ?_) ?_
    · go_simp
      refine hK _ _ ?_
      clear hK K
      try simp only [List.getElem_toArray, List.getElem_cons_zero, List.getElem_cons_succ, Act.put, List.setIfInBounds_toArray, List.set_cons_zero, List.set_cons_succ]
      refine wpAnyIn_ready (rs := [0, 2]) (by kernel_rfl) (by simp) ?_
      refine AllReadyIn.cons (o := _) rfl (fun K hK => ?_) ?_
      · go_simp
        refine hK _ _ ?_
        clear hK K
        try simp only [List.getElem_toArray, List.getElem_cons_zero, List.getElem_cons_succ, Act.put, List.setIfInBounds_toArray, List.set_cons_zero, List.set_cons_succ]
        refine wpAnyIn_ready (rs := [2]) (by kernel_rfl) (by simp) ?_
        refine AllReadyIn.cons (o := _) rfl (fun K hK => ?_) ?_
        · go_simp
          refine hK _ _ ?_
          clear hK K
          try simp only [List.getElem_toArray, List.getElem_cons_zero, List.getElem_cons_succ, Act.put, List.setIfInBounds_toArray, List.set_cons_zero, List.set_cons_succ]
          refine wpAnyIn_ready (rs := [3]) (by kernel_rfl) (by simp) ?_
          refine AllReadyIn.cons (o := _) rfl (fun K hK => ?_) ?_
          · go_simp
            refine hK _ _ ?_
            clear hK K
            try simp only [List.getElem_toArray, List.getElem_cons_zero, List.getElem_cons_succ, Act.put, List.setIfInBounds_toArray, List.set_cons_zero, List.set_cons_succ]
            refine wpAnyIn_ready (rs := [4]) (by kernel_rfl) (by simp) ?_
            refine AllReadyIn.cons (o := _) rfl (fun K hK => ?_) ?_
            · go_simp
              refine hK _ _ ?_
              clear hK K
              try simp only [List.getElem_toArray, List.getElem_cons_zero, List.getElem_cons_succ, Act.put, List.setIfInBounds_toArray, List.set_cons_zero, List.set_cons_succ]
              refine wpAnyIn_ready (rs := [5]) (by kernel_rfl) (by simp) ?_
              refine AllReadyIn.cons (o := _) rfl (fun K hK => ?_) ?_
              · go_simp
                refine (callsIn_wide.2 CT.out).mono ?_
                rintro e w9 ⟨rfl, hw9, hf9⟩
                refine hK _ _ ?_
                clear hK K
                try simp only [List.getElem_toArray, List.getElem_cons_zero, List.getElem_cons_succ, Act.put, List.setIfInBounds_toArray, List.set_cons_zero, List.set_cons_succ]
                refine wpAnyIn_done (by kernel_rfl) ?_ _
                have hf9' := HFV.out.trans hf9
                have hnb : ∀ (j : Nat) (o : Obj), V.heap[j]? = some o → j ≠ wb → (∀ c e fz, o ≠ .cells c e fz) → w9.heap[j]? = some o := fun j o h1 h2 h3 => hf9.others _ _ h1 (by intro e; injection e with e; exact h2 e) (fun c fz => h3 c _ fz)
                have hkp9 := HKV.out.wfr hf9 HNB.out hwb
                have hD9 := hnb _ _ HDV.out (by omega) (fun c e fz e1 => by cases e1)
                have hL9 := hnb _ _ HLV.out (by omega) (fun c e fz e1 => by cases e1)
                clear hnb hf9 hbx k0 k1 k2 k3
                have hWV : Below w9.heap.size w9 w9.drew := ⟨rfl, rfl, rfl, Nat.le_refl _, fun _ _ => rfl⟩
                obtain ⟨U, hV⟩ : ∃ U, U = w9.drew := ⟨_, rfl⟩
                rw [← hV] at hWV
                have HFU := Lib.hid (hf9'.trans (WFr.ofBelow hWV (by have := hf9'.size; omega)))
                have HWU := Lib.hid (hw9.kept hWV)
                have HKU := Lib.hid (KpE.next hkp9 hWV)
                have HDU := Lib.hid ((hWV.block _ (block_lt hD9)).trans hD9)
                have HLU := Lib.hid ((hWV.block _ (block_lt hL9)).trans hL9)
                have hbx : U.cell? ⟨w.heap.size, 0, none⟩ = some (.pointer (some ⟨wb, 0, none⟩)) := block_cell (HFU.out.others _ _ HX5.out (by intro e; injection e with e; omega) (fun c fz e => by injection e with e1 e2 e3; cases e2))
                obtain ⟨pa, pb, kx, _⟩ := ent_allQ HKU.out.2 HXL.out
                have k0 : U.cell? ⟨x.g, 0, none⟩ = some (.string x.key) := block_cell kx
                have k1 : U.cell? ⟨x.g, 1, none⟩ = some (.int .i64 x.c.k) := block_cell kx
                have k2 : U.cell? ⟨x.g, 2, none⟩ = some (.int .i64 x.c.n) := block_cell kx
                have k3 : U.cell? ⟨x.g, 3, none⟩ = some (.string x.c.s) := block_cell kx
                have HTU : Hid (Lib.TabBelow Tryd.prog wb U "internal/strconv.uint64pow10" .u64 Lib.pow10Tab) := Lib.hid (fun w' h' => HT.out w' (((HF5.out.trans HFU.out).below hle.1).trans h'))
                clear hWV kx
                have CP := Lib.hid (aput_any wb B _ x.c U HWU.out (by simp; simp at HLN; omega) (by have := HSX.out.2.1; omega) HSX.out.2.2.1.1 HSX.out.2.2.1.2 HSX.out.2.2.2.1 HSX.out.2.2.2.2 HTU.out)
                clear hw9 hf9' hkp9 hD9 hL9 HFV HWV HKV HDV HLV HTV CT
                gi_wp2_with fail
                refine wpIn_region_any (by kernel_rfl) ?_
                change wpAnyIn _ _ _ _ _ _ _ _ _ (World.drew _)
                rw [← hV]
                clear hV
                refine wpAnyIn_ready (rs := [0, 1]) (by kernel_rfl) (by simp) ?_
                refine AllReadyIn.cons (o := _) rfl (fun K hK => ?_) ?_
                · go_simp
                  refine hK _ _ ?_
                  clear hK K
                  try simp only [List.getElem_toArray, List.getElem_cons_zero, List.getElem_cons_succ, Act.put, List.setIfInBounds_toArray, List.set_cons_zero, List.set_cons_succ]
                  refine wpAnyIn_ready (rs := [1]) (by kernel_rfl) (by simp) ?_
                  refine AllReadyIn.cons (o := _) rfl (fun K hK => ?_) ?_
                  · go_simp
                    refine hK _ _ ?_
                    clear hK K
                    try simp only [List.getElem_toArray, List.getElem_cons_zero, List.getElem_cons_succ, Act.put, List.setIfInBounds_toArray, List.set_cons_zero, List.set_cons_succ]
                    refine wpAnyIn_ready (rs := [2]) (by kernel_rfl) (by simp) ?_
                    refine AllReadyIn.cons (o := _) rfl (fun K hK => ?_) ?_
                    · go_simp
                      refine hK _ _ ?_
                      clear hK K
                      try simp only [List.getElem_toArray, List.getElem_cons_zero, List.getElem_cons_succ, Act.put, List.setIfInBounds_toArray, List.set_cons_zero, List.set_cons_succ]
                      refine wpAnyIn_ready (rs := [3]) (by kernel_rfl) (by simp) ?_
                      refine AllReadyIn.cons (o := _) rfl (fun K hK => ?_) ?_
                      · go_simp
                        refine hK _ _ ?_
                        clear hK K
                        try simp only [List.getElem_toArray, List.getElem_cons_zero, List.getElem_cons_succ, Act.put, List.setIfInBounds_toArray, List.set_cons_zero, List.set_cons_succ]
                        refine wpAnyIn_ready (rs := [4]) (by kernel_rfl) (by simp) ?_
                        refine AllReadyIn.cons (o := _) rfl (fun K hK => ?_) ?_
                        · go_simp
                          refine hK _ _ ?_
                          clear hK K
                          try simp only [List.getElem_toArray, List.getElem_cons_zero, List.getElem_cons_succ, Act.put, List.setIfInBounds_toArray, List.set_cons_zero, List.set_cons_succ]
                          refine wpAnyIn_ready (rs := [5]) (by kernel_rfl) (by simp) ?_
                          refine AllReadyIn.cons (o := _) rfl (fun K hK => ?_) ?_
                          · go_simp
                            refine (callsIn_wide.2 CP.out).mono ?_
                            rintro e w10 ⟨rfl, hw10, hf10⟩
                            refine hK _ _ ?_
                            clear hK K
                            try simp only [List.getElem_toArray, List.getElem_cons_zero, List.getElem_cons_succ, Act.put, List.setIfInBounds_toArray, List.set_cons_zero, List.set_cons_succ]
                            refine wpAnyIn_done (by kernel_rfl) ?_ _
                            gi_wp2_with fail
                            have HFZ := Lib.hid (HFU.out.trans hf10)
                            have hnb : ∀ (j : Nat) (o : Obj), U.heap[j]? = some o → j ≠ wb → (∀ c e fz, o ≠ .cells c e fz) → w10.heap[j]? = some o := fun j o h1 h2 h3 => hf10.others _ _ h1 (by intro e; injection e with e; exact h2 e) (fun c fz => h3 c _ fz)
                            refine ⟨⟨(hnb _ _ HDU.out (by omega) (fun c e fz e1 => by cases e1)).trans HD0.out.symm, ?_⟩, HKU.out.wfr hf10 HNB.out hwb, ?_, HFZ.out⟩
                            · refine (hnb _ _ HLU.out (by omega) (fun c e fz e1 => by cases e1)).trans HL0.out.symm
                            · have e1 : l ++ [40] ++ encL (pre ++ [x]) = l ++ [40] ++ encL pre ++ Lib.itoa x.key.size ++ [58] ++ x.key.data.toList ++ encC x.c := by rw [encL_snoc]; simp [encE, pT, List.append_assoc]
                              rw [e1]
                              exact hw10
                          exact AllReadyIn.nil
                        exact AllReadyIn.nil
                      exact AllReadyIn.nil
                    exact AllReadyIn.nil
                  exact AllReadyIn.nil
                refine AllReadyIn.cons (o := _) rfl (fun K hK => ?_) ?_
                · go_simp
                  refine hK _ _ ?_
                  clear hK K
                  try simp only [List.getElem_toArray, List.getElem_cons_zero, List.getElem_cons_succ, Act.put, List.setIfInBounds_toArray, List.set_cons_zero, List.set_cons_succ]
                  refine wpAnyIn_ready (rs := [0, 2]) (by kernel_rfl) (by simp) ?_
                  refine AllReadyIn.cons (o := _) rfl (fun K hK => ?_) ?_
                  · go_simp
                    refine hK _ _ ?_
                    clear hK K
                    try simp only [List.getElem_toArray, List.getElem_cons_zero, List.getElem_cons_succ, Act.put, List.setIfInBounds_toArray, List.set_cons_zero, List.set_cons_succ]
                    refine wpAnyIn_ready (rs := [2]) (by kernel_rfl) (by simp) ?_
                    refine AllReadyIn.cons (o := _) rfl (fun K hK => ?_) ?_
                    · go_simp
                      refine hK _ _ ?_
                      clear hK K
                      try simp only [List.getElem_toArray, List.getElem_cons_zero, List.getElem_cons_succ, Act.put, List.setIfInBounds_toArray, List.set_cons_zero, List.set_cons_succ]
                      refine wpAnyIn_ready (rs := [3]) (by kernel_rfl) (by simp) ?_
                      refine AllReadyIn.cons (o := _) rfl (fun K hK => ?_) ?_
                      · go_simp
                        refine hK _ _ ?_
                        clear hK K
                        try simp only [List.getElem_toArray, List.getElem_cons_zero, List.getElem_cons_succ, Act.put, List.setIfInBounds_toArray, List.set_cons_zero, List.set_cons_succ]
                        refine wpAnyIn_ready (rs := [4]) (by kernel_rfl) (by simp) ?_
                        refine AllReadyIn.cons (o := _) rfl (fun K hK => ?_) ?_
                        · go_simp
                          refine hK _ _ ?_
                          clear hK K
                          try simp only [List.getElem_toArray, List.getElem_cons_zero, List.getElem_cons_succ, Act.put, List.setIfInBounds_toArray, List.set_cons_zero, List.set_cons_succ]
                          refine wpAnyIn_ready (rs := [5]) (by kernel_rfl) (by simp) ?_
                          refine AllReadyIn.cons (o := _) rfl (fun K hK => ?_) ?_
                          · go_simp
                            refine (callsIn_wide.2 CP.out).mono ?_
                            rintro e w10 ⟨rfl, hw10, hf10⟩
                            refine hK _ _ ?_
                            clear hK K
                            try simp only [List.getElem_toArray, List.getElem_cons_zero, List.getElem_cons_succ, Act.put, List.setIfInBounds_toArray, List.set_cons_zero, List.set_cons_succ]
                            refine wpAnyIn_done (by kernel_rfl) ?_ _
                            gi_wp2_with fail
                            have HFZ := Lib.hid (HFU.out.trans hf10)
                            have hnb : ∀ (j : Nat) (o : Obj), U.heap[j]? = some o → j ≠ wb → (∀ c e fz, o ≠ .cells c e fz) → w10.heap[j]? = some o := fun j o h1 h2 h3 => hf10.others _ _ h1 (by intro e; injection e with e; exact h2 e) (fun c fz => h3 c _ fz)
                            refine ⟨⟨(hnb _ _ HDU.out (by omega) (fun c e fz e1 => by cases e1)).trans HD0.out.symm, ?_⟩, HKU.out.wfr hf10 HNB.out hwb, ?_, HFZ.out⟩
                            · refine (hnb _ _ HLU.out (by omega) (fun c e fz e1 => by cases e1)).trans HL0.out.symm
                            · have e1 : l ++ [40] ++ encL (pre ++ [x]) = l ++ [40] ++ encL pre ++ Lib.itoa x.key.size ++ [58] ++ x.key.data.toList ++ encC x.c := by rw [encL_snoc]; simp [encE, pT, List.append_assoc]
                              rw [e1]
                              exact hw10
                          exact AllReadyIn.nil
                        exact AllReadyIn.nil
                      exact AllReadyIn.nil
                    exact AllReadyIn.nil
                  refine AllReadyIn.cons (o := _) rfl (fun K hK => ?_) ?_
                  · go_simp
                    refine hK _ _ ?_
                    clear hK K
                    try simp only [List.getElem_toArray, List.getElem_cons_zero, List.getElem_cons_succ, Act.put, List.setIfInBounds_toArray, List.set_cons_zero, List.set_cons_succ]
                    refine wpAnyIn_ready (rs := [0, 3]) (by kernel_rfl) (by simp) ?_
                    refine AllReadyIn.cons (o := _) rfl (fun K hK => ?_) ?_
                    · go_simp
                      refine hK _ _ ?_
                      clear hK K
                      try simp only [List.getElem_toArray, List.getElem_cons_zero, List.getElem_cons_succ, Act.put, List.setIfInBounds_toArray, List.set_cons_zero, List.set_cons_succ]
                      refine wpAnyIn_ready (rs := [3]) (by kernel_rfl) (by simp) ?_
                      refine AllReadyIn.cons (o := _) rfl (fun K hK => ?_) ?_
                      · go_simp
                        refine hK _ _ ?_
                        clear hK K
                        try simp only [List.getElem_toArray, List.getElem_cons_zero, List.getElem_cons_succ, Act.put, List.setIfInBounds_toArray, List.set_cons_zero, List.set_cons_succ]
                        refine wpAnyIn_ready (rs := [4]) (by kernel_rfl) (by simp) ?_
                        refine AllReadyIn.cons (o := _) rfl (fun K hK => ?_) ?_
                        · go_simp
                          refine hK _ _ ?_
                          clear hK K
                          try simp only [List.getElem_toArray, List.getElem_cons_zero, List.getElem_cons_succ, Act.put, List.setIfInBounds_toArray, List.set_cons_zero, List.set_cons_succ]
                          refine wpAnyIn_ready (rs := [5]) (by kernel_rfl) (by simp) ?_
                          refine AllReadyIn.cons (o := _) rfl (fun K hK => ?_) ?_
                          · go_simp
                            refine (callsIn_wide.2 CP.out).mono ?_
                            rintro e w10 ⟨rfl, hw10, hf10⟩
                            refine hK _ _ ?_
                            clear hK K
                            try simp only [List.getElem_toArray, List.getElem_cons_zero, List.getElem_cons_succ, Act.put, List.setIfInBounds_toArray, List.set_cons_zero, List.set_cons_succ]
                            refine wpAnyIn_done (by kernel_rfl) ?_ _
                            gi_wp2_with fail
                            have HFZ := Lib.hid (HFU.out.trans hf10)
                            have hnb : ∀ (j : Nat) (o : Obj), U.heap[j]? = some o → j ≠ wb → (∀ c e fz, o ≠ .cells c e fz) → w10.heap[j]? = some o := fun j o h1 h2 h3 => hf10.others _ _ h1 (by intro e; injection e with e; exact h2 e) (fun c fz => h3 c _ fz)
                            refine ⟨⟨(hnb _ _ HDU.out (by omega) (fun c e fz e1 => by cases e1)).trans HD0.out.symm, ?_⟩, HKU.out.wfr hf10 HNB.out hwb, ?_, HFZ.out⟩
                            · refine (hnb _ _ HLU.out (by omega) (fun c e fz e1 => by cases e1)).trans HL0.out.symm
                            · have e1 : l ++ [40] ++ encL (pre ++ [x]) = l ++ [40] ++ encL pre ++ Lib.itoa x.key.size ++ [58] ++ x.key.data.toList ++ encC x.c := by rw [encL_snoc]; simp [encE, pT, List.append_assoc]
                              rw [e1]
                              exact hw10
                          exact AllReadyIn.nil
                        exact AllReadyIn.nil
                      exact AllReadyIn.nil
                    refine AllReadyIn.cons (o := _) rfl (fun K hK => ?_) ?_
                    · go_simp
                      refine hK _ _ ?_
                      clear hK K
                      try simp only [List.getElem_toArray, List.getElem_cons_zero, List.getElem_cons_succ, Act.put, List.setIfInBounds_toArray, List.set_cons_zero, List.set_cons_succ]
                      refine wpAnyIn_ready (rs := [0, 4]) (by kernel_rfl) (by simp) ?_
                      refine AllReadyIn.cons (o := _) rfl (fun K hK => ?_) ?_
                      · go_simp
                        refine hK _ _ ?_
                        clear hK K
                        try simp only [List.getElem_toArray, List.getElem_cons_zero, List.getElem_cons_succ, Act.put, List.setIfInBounds_toArray, List.set_cons_zero, List.set_cons_succ]
                        refine wpAnyIn_ready (rs := [4]) (by kernel_rfl) (by simp) ?_
                        refine AllReadyIn.cons (o := _) rfl (fun K hK => ?_) ?_
                        · go_simp
                          refine hK _ _ ?_
                          clear hK K
                          try simp only [List.getElem_toArray, List.getElem_cons_zero, List.getElem_cons_succ, Act.put, List.setIfInBounds_toArray, List.set_cons_zero, List.set_cons_succ]
                          refine wpAnyIn_ready (rs := [5]) (by kernel_rfl) (by simp) ?_
                          refine AllReadyIn.cons (o := _) rfl (fun K hK => ?_) ?_
                          · go_simp
                            refine (callsIn_wide.2 CP.out).mono ?_
                            rintro e w10 ⟨rfl, hw10, hf10⟩
                            refine hK _ _ ?_
                            clear hK K
                            try simp only [List.getElem_toArray, List.getElem_cons_zero, List.getElem_cons_succ, Act.put, List.setIfInBounds_toArray, List.set_cons_zero, List.set_cons_succ]
                            refine wpAnyIn_done (by kernel_rfl) ?_ _
                            gi_wp2_with fail
                            have HFZ := Lib.hid (HFU.out.trans hf10)
                            have hnb : ∀ (j : Nat) (o : Obj), U.heap[j]? = some o → j ≠ wb → (∀ c e fz, o ≠ .cells c e fz) → w10.heap[j]? = some o := fun j o h1 h2 h3 => hf10.others _ _ h1 (by intro e; injection e with e; exact h2 e) (fun c fz => h3 c _ fz)
                            refine ⟨⟨(hnb _ _ HDU.out (by omega) (fun c e fz e1 => by cases e1)).trans HD0.out.symm, ?_⟩, HKU.out.wfr hf10 HNB.out hwb, ?_, HFZ.out⟩
                            · refine (hnb _ _ HLU.out (by omega) (fun c e fz e1 => by cases e1)).trans HL0.out.symm
                            · have e1 : l ++ [40] ++ encL (pre ++ [x]) = l ++ [40] ++ encL pre ++ Lib.itoa x.key.size ++ [58] ++ x.key.data.toList ++ encC x.c := by rw [encL_snoc]; simp [encE, pT, List.append_assoc]
                              rw [e1]
                              exact hw10
                          exact AllReadyIn.nil
                        exact AllReadyIn.nil
                      refine AllReadyIn.cons (o := _) rfl (fun K hK => ?_) ?_
                      · go_simp
                        refine hK _ _ ?_
                        clear hK K
                        try simp only [List.getElem_toArray, List.getElem_cons_zero, List.getElem_cons_succ, Act.put, List.setIfInBounds_toArray, List.set_cons_zero, List.set_cons_succ]
                        refine wpAnyIn_ready (rs := [0]) (by kernel_rfl) (by simp) ?_
                        refine AllReadyIn.cons (o := _) rfl (fun K hK => ?_) ?_
                        · go_simp
                          refine hK _ _ ?_
                          clear hK K
                          try simp only [List.getElem_toArray, List.getElem_cons_zero, List.getElem_cons_succ, Act.put, List.setIfInBounds_toArray, List.set_cons_zero, List.set_cons_succ]
                          refine wpAnyIn_ready (rs := [5]) (by kernel_rfl) (by simp) ?_
                          refine AllReadyIn.cons (o := _) rfl (fun K hK => ?_) ?_
                          · go_simp
                            refine (callsIn_wide.2 CP.out).mono ?_
                            rintro e w10 ⟨rfl, hw10, hf10⟩
                            refine hK _ _ ?_
                            clear hK K
                            try simp only [List.getElem_toArray, List.getElem_cons_zero, List.getElem_cons_succ, Act.put, List.setIfInBounds_toArray, List.set_cons_zero, List.set_cons_succ]
                            refine wpAnyIn_done (by kernel_rfl) ?_ _
                            gi_wp2_with fail
                            have HFZ := Lib.hid (HFU.out.trans hf10)
                            have hnb : ∀ (j : Nat) (o : Obj), U.heap[j]? = some o → j ≠ wb → (∀ c e fz, o ≠ .cells c e fz) → w10.heap[j]? = some o := fun j o h1 h2 h3 => hf10.others _ _ h1 (by intro e; injection e with e; exact h2 e) (fun c fz => h3 c _ fz)
                            refine ⟨⟨(hnb _ _ HDU.out (by omega) (fun c e fz e1 => by cases e1)).trans HD0.out.symm, ?_⟩, HKU.out.wfr hf10 HNB.out hwb, ?_, HFZ.out⟩
                            · refine (hnb _ _ HLU.out (by omega) (fun c e fz e1 => by cases e1)).trans HL0.out.symm
                            · have e1 : l ++ [40] ++ encL (pre ++ [x]) = l ++ [40] ++ encL pre ++ Lib.itoa x.key.size ++ [58] ++ x.key.data.toList ++ encC x.c := by rw [encL_snoc]; simp [encE, pT, List.append_assoc]
                              rw [e1]
                              exact hw10
                          exact AllReadyIn.nil
                        exact AllReadyIn.nil
                      exact AllReadyIn.nil
                    exact AllReadyIn.nil
                  exact AllReadyIn.nil
                exact AllReadyIn.nil
              exact AllReadyIn.nil
            exact AllReadyIn.nil
          exact AllReadyIn.nil
        exact AllReadyIn.nil
      refine AllReadyIn.cons (o := _) rfl (fun K hK => ?_) ?_
      · go_simp
        refine hK _ _ ?_
        clear hK K
        try simp only [List.getElem_toArray, List.getElem_cons_zero, List.getElem_cons_succ, Act.put, List.setIfInBounds_toArray, List.set_cons_zero, List.set_cons_succ]
        refine wpAnyIn_ready (rs := [0, 3]) (by kernel_rfl) (by simp) ?_
        refine AllReadyIn.cons (o := _) rfl (fun K hK => ?_) ?_
        · go_simp
          refine hK _ _ ?_
          clear hK K
          try simp only [List.getElem_toArray, List.getElem_cons_zero, List.getElem_cons_succ, Act.put, List.setIfInBounds_toArray, List.set_cons_zero, List.set_cons_succ]
          refine wpAnyIn_ready (rs := [3]) (by kernel_rfl) (by simp) ?_
          refine AllReadyIn.cons (o := _) rfl (fun K hK => ?_) ?_
          · go_simp
            refine hK _ _ ?_
            clear hK K
            try simp only [List.getElem_toArray, List.getElem_cons_zero, List.getElem_cons_succ, Act.put, List.setIfInBounds_toArray, List.set_cons_zero, List.set_cons_succ]
            refine wpAnyIn_ready (rs := [4]) (by kernel_rfl) (by simp) ?_
            refine AllReadyIn.cons (o := _) rfl (fun K hK => ?_) ?_
            · go_simp
              refine hK _ _ ?_
              clear hK K
              try simp only [List.getElem_toArray, List.getElem_cons_zero, List.getElem_cons_succ, Act.put, List.setIfInBounds_toArray, List.set_cons_zero, List.set_cons_succ]
              refine wpAnyIn_ready (rs := [5]) (by kernel_rfl) (by simp) ?_
              refine AllReadyIn.cons (o := _) rfl (fun K hK => ?_) ?_
              · go_simp
                refine (callsIn_wide.2 CT.out).mono ?_
                rintro e w9 ⟨rfl, hw9, hf9⟩
                refine hK _ _ ?_
                clear hK K
                try simp only [List.getElem_toArray, List.getElem_cons_zero, List.getElem_cons_succ, Act.put, List.setIfInBounds_toArray, List.set_cons_zero, List.set_cons_succ]
                refine wpAnyIn_done (by kernel_rfl) ?_ _
                have hf9' := HFV.out.trans hf9
                have hnb : ∀ (j : Nat) (o : Obj), V.heap[j]? = some o → j ≠ wb → (∀ c e fz, o ≠ .cells c e fz) → w9.heap[j]? = some o := fun j o h1 h2 h3 => hf9.others _ _ h1 (by intro e; injection e with e; exact h2 e) (fun c fz => h3 c _ fz)
                have hkp9 := HKV.out.wfr hf9 HNB.out hwb
                have hD9 := hnb _ _ HDV.out (by omega) (fun c e fz e1 => by cases e1)
                have hL9 := hnb _ _ HLV.out (by omega) (fun c e fz e1 => by cases e1)
                clear hnb hf9 hbx k0 k1 k2 k3
                have hWV : Below w9.heap.size w9 w9.drew := ⟨rfl, rfl, rfl, Nat.le_refl _, fun _ _ => rfl⟩
                obtain ⟨U, hV⟩ : ∃ U, U = w9.drew := ⟨_, rfl⟩
                rw [← hV] at hWV
                have HFU := Lib.hid (hf9'.trans (WFr.ofBelow hWV (by have := hf9'.size; omega)))
                have HWU := Lib.hid (hw9.kept hWV)
                have HKU := Lib.hid (KpE.next hkp9 hWV)
                have HDU := Lib.hid ((hWV.block _ (block_lt hD9)).trans hD9)
                have HLU := Lib.hid ((hWV.block _ (block_lt hL9)).trans hL9)
                have hbx : U.cell? ⟨w.heap.size, 0, none⟩ = some (.pointer (some ⟨wb, 0, none⟩)) := block_cell (HFU.out.others _ _ HX5.out (by intro e; injection e with e; omega) (fun c fz e => by injection e with e1 e2 e3; cases e2))
                obtain ⟨pa, pb, kx, _⟩ := ent_allQ HKU.out.2 HXL.out
                have k0 : U.cell? ⟨x.g, 0, none⟩ = some (.string x.key) := block_cell kx
                have k1 : U.cell? ⟨x.g, 1, none⟩ = some (.int .i64 x.c.k) := block_cell kx
                have k2 : U.cell? ⟨x.g, 2, none⟩ = some (.int .i64 x.c.n) := block_cell kx
                have k3 : U.cell? ⟨x.g, 3, none⟩ = some (.string x.c.s) := block_cell kx
                have HTU : Hid (Lib.TabBelow Tryd.prog wb U "internal/strconv.uint64pow10" .u64 Lib.pow10Tab) := Lib.hid (fun w' h' => HT.out w' (((HF5.out.trans HFU.out).below hle.1).trans h'))
                clear hWV kx
                have CP := Lib.hid (aput_any wb B _ x.c U HWU.out (by simp; simp at HLN; omega) (by have := HSX.out.2.1; omega) HSX.out.2.2.1.1 HSX.out.2.2.1.2 HSX.out.2.2.2.1 HSX.out.2.2.2.2 HTU.out)
                clear hw9 hf9' hkp9 hD9 hL9 HFV HWV HKV HDV HLV HTV CT
                gi_wp2_with fail
                refine wpIn_region_any (by kernel_rfl) ?_
                change wpAnyIn _ _ _ _ _ _ _ _ _ (World.drew _)
                rw [← hV]
                clear hV
                refine wpAnyIn_ready (rs := [0, 1]) (by kernel_rfl) (by simp) ?_
                refine AllReadyIn.cons (o := _) rfl (fun K hK => ?_) ?_
                · go_simp
                  refine hK _ _ ?_
                  clear hK K
                  try simp only [List.getElem_toArray, List.getElem_cons_zero, List.getElem_cons_succ, Act.put, List.setIfInBounds_toArray, List.set_cons_zero, List.set_cons_succ]
                  refine wpAnyIn_ready (rs := [1]) (by kernel_rfl) (by simp) ?_
                  refine AllReadyIn.cons (o := _) rfl (fun K hK => ?_) ?_
                  · go_simp
                    refine hK _ _ ?_
                    clear hK K
                    try simp only [List.getElem_toArray, List.getElem_cons_zero, List.getElem_cons_succ, Act.put, List.setIfInBounds_toArray, List.set_cons_zero, List.set_cons_succ]
                    refine wpAnyIn_ready (rs := [2]) (by kernel_rfl) (by simp) ?_
                    refine AllReadyIn.cons (o := _) rfl (fun K hK => ?_) ?_
                    · go_simp
                      refine hK _ _ ?_
                      clear hK K
                      try simp only [List.getElem_toArray, List.getElem_cons_zero, List.getElem_cons_succ, Act.put, List.setIfInBounds_toArray, List.set_cons_zero, List.set_cons_succ]
                      refine wpAnyIn_ready (rs := [3]) (by kernel_rfl) (by simp) ?_
                      refine AllReadyIn.cons (o := _) rfl (fun K hK => ?_) ?_
                      · go_simp
                        refine hK _ _ ?_
                        clear hK K
                        try simp only [List.getElem_toArray, List.getElem_cons_zero, List.getElem_cons_succ, Act.put, List.setIfInBounds_toArray, List.set_cons_zero, List.set_cons_succ]
                        refine wpAnyIn_ready (rs := [4]) (by kernel_rfl) (by simp) ?_
                        refine AllReadyIn.cons (o := _) rfl (fun K hK => ?_) ?_
                        · go_simp
                          refine hK _ _ ?_
                          clear hK K
                          try simp only [List.getElem_toArray, List.getElem_cons_zero, List.getElem_cons_succ, Act.put, List.setIfInBounds_toArray, List.set_cons_zero, List.set_cons_succ]
                          refine wpAnyIn_ready (rs := [5]) (by kernel_rfl) (by simp) ?_
                          refine AllReadyIn.cons (o := _) rfl (fun K hK => ?_) ?_
                          · go_simp
                            refine (callsIn_wide.2 CP.out).mono ?_
                            rintro e w10 ⟨rfl, hw10, hf10⟩
                            refine hK _ _ ?_
                            clear hK K
                            try simp only [List.getElem_toArray, List.getElem_cons_zero, List.getElem_cons_succ, Act.put, List.setIfInBounds_toArray, List.set_cons_zero, List.set_cons_succ]
                            refine wpAnyIn_done (by kernel_rfl) ?_ _
                            gi_wp2_with fail
                            have HFZ := Lib.hid (HFU.out.trans hf10)
                            have hnb : ∀ (j : Nat) (o : Obj), U.heap[j]? = some o → j ≠ wb → (∀ c e fz, o ≠ .cells c e fz) → w10.heap[j]? = some o := fun j o h1 h2 h3 => hf10.others _ _ h1 (by intro e; injection e with e; exact h2 e) (fun c fz => h3 c _ fz)
                            refine ⟨⟨(hnb _ _ HDU.out (by omega) (fun c e fz e1 => by cases e1)).trans HD0.out.symm, ?_⟩, HKU.out.wfr hf10 HNB.out hwb, ?_, HFZ.out⟩
                            · refine (hnb _ _ HLU.out (by omega) (fun c e fz e1 => by cases e1)).trans HL0.out.symm
                            · have e1 : l ++ [40] ++ encL (pre ++ [x]) = l ++ [40] ++ encL pre ++ Lib.itoa x.key.size ++ [58] ++ x.key.data.toList ++ encC x.c := by rw [encL_snoc]; simp [encE, pT, List.append_assoc]
                              rw [e1]
                              exact hw10
                          exact AllReadyIn.nil
                        exact AllReadyIn.nil
                      exact AllReadyIn.nil
                    exact AllReadyIn.nil
                  exact AllReadyIn.nil
                refine AllReadyIn.cons (o := _) rfl (fun K hK => ?_) ?_
                · go_simp
                  refine hK _ _ ?_
                  clear hK K
                  try simp only [List.getElem_toArray, List.getElem_cons_zero, List.getElem_cons_succ, Act.put, List.setIfInBounds_toArray, List.set_cons_zero, List.set_cons_succ]
                  refine wpAnyIn_ready (rs := [0, 2]) (by kernel_rfl) (by simp) ?_
                  refine AllReadyIn.cons (o := _) rfl (fun K hK => ?_) ?_
                  · go_simp
                    refine hK _ _ ?_
                    clear hK K
                    try simp only [List.getElem_toArray, List.getElem_cons_zero, List.getElem_cons_succ, Act.put, List.setIfInBounds_toArray, List.set_cons_zero, List.set_cons_succ]
                    refine wpAnyIn_ready (rs := [2]) (by kernel_rfl) (by simp) ?_
                    refine AllReadyIn.cons (o := _) rfl (fun K hK => ?_) ?_
                    · go_simp
                      refine hK _ _ ?_
                      clear hK K
                      try simp only [List.getElem_toArray, List.getElem_cons_zero, List.getElem_cons_succ, Act.put, List.setIfInBounds_toArray, List.set_cons_zero, List.set_cons_succ]
                      refine wpAnyIn_ready (rs := [3]) (by kernel_rfl) (by simp) ?_
                      refine AllReadyIn.cons (o := _) rfl (fun K hK => ?_) ?_
                      · go_simp
                        refine hK _ _ ?_
                        clear hK K
                        try simp only [List.getElem_toArray, List.getElem_cons_zero, List.getElem_cons_succ, Act.put, List.setIfInBounds_toArray, List.set_cons_zero, List.set_cons_succ]
                        refine wpAnyIn_ready (rs := [4]) (by kernel_rfl) (by simp) ?_
                        refine AllReadyIn.cons (o := _) rfl (fun K hK => ?_) ?_
                        · go_simp
                          refine hK _ _ ?_
                          clear hK K
                          try simp only [List.getElem_toArray, List.getElem_cons_zero, List.getElem_cons_succ, Act.put, List.setIfInBounds_toArray, List.set_cons_zero, List.set_cons_succ]
                          refine wpAnyIn_ready (rs := [5]) (by kernel_rfl) (by simp) ?_
                          refine AllReadyIn.cons (o := _) rfl (fun K hK => ?_) ?_
                          · go_simp
                            refine (callsIn_wide.2 CP.out).mono ?_
                            rintro e w10 ⟨rfl, hw10, hf10⟩
                            refine hK _ _ ?_
                            clear hK K
                            try simp only [List.getElem_toArray, List.getElem_cons_zero, List.getElem_cons_succ, Act.put, List.setIfInBounds_toArray, List.set_cons_zero, List.set_cons_succ]
                            refine wpAnyIn_done (by kernel_rfl) ?_ _
                            gi_wp2_with fail
                            have HFZ := Lib.hid (HFU.out.trans hf10)
                            have hnb : ∀ (j : Nat) (o : Obj), U.heap[j]? = some o → j ≠ wb → (∀ c e fz, o ≠ .cells c e fz) → w10.heap[j]? = some o := fun j o h1 h2 h3 => hf10.others _ _ h1 (by intro e; injection e with e; exact h2 e) (fun c fz => h3 c _ fz)
                            refine ⟨⟨(hnb _ _ HDU.out (by omega) (fun c e fz e1 => by cases e1)).trans HD0.out.symm, ?_⟩, HKU.out.wfr hf10 HNB.out hwb, ?_, HFZ.out⟩
                            · refine (hnb _ _ HLU.out (by omega) (fun c e fz e1 => by cases e1)).trans HL0.out.symm
                            · have e1 : l ++ [40] ++ encL (pre ++ [x]) = l ++ [40] ++ encL pre ++ Lib.itoa x.key.size ++ [58] ++ x.key.data.toList ++ encC x.c := by rw [encL_snoc]; simp [encE, pT, List.append_assoc]
                              rw [e1]
                              exact hw10
                          exact AllReadyIn.nil
                        exact AllReadyIn.nil
                      exact AllReadyIn.nil
                    exact AllReadyIn.nil
                  refine AllReadyIn.cons (o := _) rfl (fun K hK => ?_) ?_
                  · go_simp
                    refine hK _ _ ?_
                    clear hK K
                    try simp only [List.getElem_toArray, List.getElem_cons_zero, List.getElem_cons_succ, Act.put, List.setIfInBounds_toArray, List.set_cons_zero, List.set_cons_succ]
                    refine wpAnyIn_ready (rs := [0, 3]) (by kernel_rfl) (by simp) ?_
                    refine AllReadyIn.cons (o := _) rfl (fun K hK => ?_) ?_
                    · go_simp
                      refine hK _ _ ?_
                      clear hK K
                      try simp only [List.getElem_toArray, List.getElem_cons_zero, List.getElem_cons_succ, Act.put, List.setIfInBounds_toArray, List.set_cons_zero, List.set_cons_succ]
                      refine wpAnyIn_ready (rs := [3]) (by kernel_rfl) (by simp) ?_
                      refine AllReadyIn.cons (o := _) rfl (fun K hK => ?_) ?_
                      · go_simp
                        refine hK _ _ ?_
                        clear hK K
                        try simp only [List.getElem_toArray, List.getElem_cons_zero, List.getElem_cons_succ, Act.put, List.setIfInBounds_toArray, List.set_cons_zero, List.set_cons_succ]
                        refine wpAnyIn_ready (rs := [4]) (by kernel_rfl) (by simp) ?_
                        refine AllReadyIn.cons (o := _) rfl (fun K hK => ?_) ?_
                        · go_simp
                          refine hK _ _ ?_
                          clear hK K
                          try simp only [List.getElem_toArray, List.getElem_cons_zero, List.getElem_cons_succ, Act.put, List.setIfInBounds_toArray, List.set_cons_zero, List.set_cons_succ]
                          refine wpAnyIn_ready (rs := [5]) (by kernel_rfl) (by simp) ?_
                          refine AllReadyIn.cons (o := _) rfl (fun K hK => ?_) ?_
                          · go_simp
                            refine (callsIn_wide.2 CP.out).mono ?_
                            rintro e w10 ⟨rfl, hw10, hf10⟩
                            refine hK _ _ ?_
                            clear hK K
                            try simp only [List.getElem_toArray, List.getElem_cons_zero, List.getElem_cons_succ, Act.put, List.setIfInBounds_toArray, List.set_cons_zero, List.set_cons_succ]
                            refine wpAnyIn_done (by kernel_rfl) ?_ _
                            gi_wp2_with fail
                            have HFZ := Lib.hid (HFU.out.trans hf10)
                            have hnb : ∀ (j : Nat) (o : Obj), U.heap[j]? = some o → j ≠ wb → (∀ c e fz, o ≠ .cells c e fz) → w10.heap[j]? = some o := fun j o h1 h2 h3 => hf10.others _ _ h1 (by intro e; injection e with e; exact h2 e) (fun c fz => h3 c _ fz)
                            refine ⟨⟨(hnb _ _ HDU.out (by omega) (fun c e fz e1 => by cases e1)).trans HD0.out.symm, ?_⟩, HKU.out.wfr hf10 HNB.out hwb, ?_, HFZ.out⟩
                            · refine (hnb _ _ HLU.out (by omega) (fun c e fz e1 => by cases e1)).trans HL0.out.symm
                            · have e1 : l ++ [40] ++ encL (pre ++ [x]) = l ++ [40] ++ encL pre ++ Lib.itoa x.key.size ++ [58] ++ x.key.data.toList ++ encC x.c := by rw [encL_snoc]; simp [encE, pT, List.append_assoc]
                              rw [e1]
                              exact hw10
                          exact AllReadyIn.nil
                        exact AllReadyIn.nil
                      exact AllReadyIn.nil
                    refine AllReadyIn.cons (o := _) rfl (fun K hK => ?_) ?_
                    · go_simp
                      refine hK _ _ ?_
                      clear hK K
                      try simp only [List.getElem_toArray, List.getElem_cons_zero, List.getElem_cons_succ, Act.put, List.setIfInBounds_toArray, List.set_cons_zero, List.set_cons_succ]
                      refine wpAnyIn_ready (rs := [0, 4]) (by kernel_rfl) (by simp) ?_
                      refine AllReadyIn.cons (o := _) rfl (fun K hK => ?_) ?_
                      · go_simp
                        refine hK _ _ ?_
                        clear hK K
                        try simp only [List.getElem_toArray, List.getElem_cons_zero, List.getElem_cons_succ, Act.put, List.setIfInBounds_toArray, List.set_cons_zero, List.set_cons_succ]
                        refine wpAnyIn_ready (rs := [4]) (by kernel_rfl) (by simp) ?_
                        refine AllReadyIn.cons (o := _) rfl (fun K hK => ?_) ?_
                        · go_simp
                          refine hK _ _ ?_
                          clear hK K
                          try simp only [List.getElem_toArray, List.getElem_cons_zero, List.getElem_cons_succ, Act.put, List.setIfInBounds_toArray, List.set_cons_zero, List.set_cons_succ]
                          refine wpAnyIn_ready (rs := [5]) (by kernel_rfl) (by simp) ?_
                          refine AllReadyIn.cons (o := _) rfl (fun K hK => ?_) ?_
                          · go_simp
                            refine (callsIn_wide.2 CP.out).mono ?_
                            rintro e w10 ⟨rfl, hw10, hf10⟩
                            refine hK _ _ ?_
                            clear hK K
                            try simp only [List.getElem_toArray, List.getElem_cons_zero, List.getElem_cons_succ, Act.put, List.setIfInBounds_toArray, List.set_cons_zero, List.set_cons_succ]
                            refine wpAnyIn_done (by kernel_rfl) ?_ _
                            gi_wp2_with fail
                            have HFZ := Lib.hid (HFU.out.trans hf10)
                            have hnb : ∀ (j : Nat) (o : Obj), U.heap[j]? = some o → j ≠ wb → (∀ c e fz, o ≠ .cells c e fz) → w10.heap[j]? = some o := fun j o h1 h2 h3 => hf10.others _ _ h1 (by intro e; injection e with e; exact h2 e) (fun c fz => h3 c _ fz)
                            refine ⟨⟨(hnb _ _ HDU.out (by omega) (fun c e fz e1 => by cases e1)).trans HD0.out.symm, ?_⟩, HKU.out.wfr hf10 HNB.out hwb, ?_, HFZ.out⟩
                            · refine (hnb _ _ HLU.out (by omega) (fun c e fz e1 => by cases e1)).trans HL0.out.symm
                            · have e1 : l ++ [40] ++ encL (pre ++ [x]) = l ++ [40] ++ encL pre ++ Lib.itoa x.key.size ++ [58] ++ x.key.data.toList ++ encC x.c := by rw [encL_snoc]; simp [encE, pT, List.append_assoc]
                              rw [e1]
                              exact hw10
                          exact AllReadyIn.nil
                        exact AllReadyIn.nil
                      refine AllReadyIn.cons (o := _) rfl (fun K hK => ?_) ?_
                      · go_simp
                        refine hK _ _ ?_
                        clear hK K
                        try simp only [List.getElem_toArray, List.getElem_cons_zero, List.getElem_cons_succ, Act.put, List.setIfInBounds_toArray, List.set_cons_zero, List.set_cons_succ]
                        refine wpAnyIn_ready (rs := [0]) (by kernel_rfl) (by simp) ?_
                        refine AllReadyIn.cons (o := _) rfl (fun K hK => ?_) ?_
                        · go_simp
                          refine hK _ _ ?_
                          clear hK K
                          try simp only [List.getElem_toArray, List.getElem_cons_zero, List.getElem_cons_succ, Act.put, List.setIfInBounds_toArray, List.set_cons_zero, List.set_cons_succ]
                          refine wpAnyIn_ready (rs := [5]) (by kernel_rfl) (by simp) ?_
                          refine AllReadyIn.cons (o := _) rfl (fun K hK => ?_) ?_
                          · go_simp
                            refine (callsIn_wide.2 CP.out).mono ?_
                            rintro e w10 ⟨rfl, hw10, hf10⟩
                            refine hK _ _ ?_
                            clear hK K
                            try simp only [List.getElem_toArray, List.getElem_cons_zero, List.getElem_cons_succ, Act.put, List.setIfInBounds_toArray, List.set_cons_zero, List.set_cons_succ]
                            refine wpAnyIn_done (by kernel_rfl) ?_ _
                            gi_wp2_with fail
                            have HFZ := Lib.hid (HFU.out.trans hf10)
                            have hnb : ∀ (j : Nat) (o : Obj), U.heap[j]? = some o → j ≠ wb → (∀ c e fz, o ≠ .cells c e fz) → w10.heap[j]? = some o := fun j o h1 h2 h3 => hf10.others _ _ h1 (by intro e; injection e with e; exact h2 e) (fun c fz => h3 c _ fz)
                            refine ⟨⟨(hnb _ _ HDU.out (by omega) (fun c e fz e1 => by cases e1)).trans HD0.out.symm, ?_⟩, HKU.out.wfr hf10 HNB.out hwb, ?_, HFZ.out⟩
                            · refine (hnb _ _ HLU.out (by omega) (fun c e fz e1 => by cases e1)).trans HL0.out.symm
                            · have e1 : l ++ [40] ++ encL (pre ++ [x]) = l ++ [40] ++ encL pre ++ Lib.itoa x.key.size ++ [58] ++ x.key.data.toList ++ encC x.c := by rw [encL_snoc]; simp [encE, pT, List.append_assoc]
                              rw [e1]
                              exact hw10
                          exact AllReadyIn.nil
                        exact AllReadyIn.nil
                      exact AllReadyIn.nil
                    exact AllReadyIn.nil
                  exact AllReadyIn.nil
                exact AllReadyIn.nil
              exact AllReadyIn.nil
            exact AllReadyIn.nil
          exact AllReadyIn.nil
        refine AllReadyIn.cons (o := _) rfl (fun K hK => ?_) ?_
        · go_simp
          refine hK _ _ ?_
          clear hK K
          try simp only [List.getElem_toArray, List.getElem_cons_zero, List.getElem_cons_succ, Act.put, List.setIfInBounds_toArray, List.set_cons_zero, List.set_cons_succ]
          refine wpAnyIn_ready (rs := [0, 4]) (by kernel_rfl) (by simp) ?_
          refine AllReadyIn.cons (o := _) rfl (fun K hK => ?_) ?_
          · go_simp
            refine hK _ _ ?_
            clear hK K
            try simp only [List.getElem_toArray, List.getElem_cons_zero, List.getElem_cons_succ, Act.put, List.setIfInBounds_toArray, List.set_cons_zero, List.set_cons_succ]
            refine wpAnyIn_ready (rs := [4]) (by kernel_rfl) (by simp) ?_
            refine AllReadyIn.cons (o := _) rfl (fun K hK => ?_) ?_
            · go_simp
              refine hK _ _ ?_
              clear hK K
              try simp only [List.getElem_toArray, List.getElem_cons_zero, List.getElem_cons_succ, Act.put, List.setIfInBounds_toArray, List.set_cons_zero, List.set_cons_succ]
              refine wpAnyIn_ready (rs := [5]) (by kernel_rfl) (by simp) ?_
              refine AllReadyIn.cons (o := _) rfl (fun K hK => ?_) ?_
              · go_simp
                refine (callsIn_wide.2 CT.out).mono ?_
                rintro e w9 ⟨rfl, hw9, hf9⟩
                refine hK _ _ ?_
                clear hK K
                try simp only [List.getElem_toArray, List.getElem_cons_zero, List.getElem_cons_succ, Act.put, List.setIfInBounds_toArray, List.set_cons_zero, List.set_cons_succ]
                refine wpAnyIn_done (by kernel_rfl) ?_ _
                have hf9' := HFV.out.trans hf9
                have hnb : ∀ (j : Nat) (o : Obj), V.heap[j]? = some o → j ≠ wb → (∀ c e fz, o ≠ .cells c e fz) → w9.heap[j]? = some o := fun j o h1 h2 h3 => hf9.others _ _ h1 (by intro e; injection e with e; exact h2 e) (fun c fz => h3 c _ fz)
                have hkp9 := HKV.out.wfr hf9 HNB.out hwb
                have hD9 := hnb _ _ HDV.out (by omega) (fun c e fz e1 => by cases e1)
                have hL9 := hnb _ _ HLV.out (by omega) (fun c e fz e1 => by cases e1)
                clear hnb hf9 hbx k0 k1 k2 k3
                have hWV : Below w9.heap.size w9 w9.drew := ⟨rfl, rfl, rfl, Nat.le_refl _, fun _ _ => rfl⟩
                obtain ⟨U, hV⟩ : ∃ U, U = w9.drew := ⟨_, rfl⟩
                rw [← hV] at hWV
                have HFU := Lib.hid (hf9'.trans (WFr.ofBelow hWV (by have := hf9'.size; omega)))
                have HWU := Lib.hid (hw9.kept hWV)
                have HKU := Lib.hid (KpE.next hkp9 hWV)
                have HDU := Lib.hid ((hWV.block _ (block_lt hD9)).trans hD9)
                have HLU := Lib.hid ((hWV.block _ (block_lt hL9)).trans hL9)
                have hbx : U.cell? ⟨w.heap.size, 0, none⟩ = some (.pointer (some ⟨wb, 0, none⟩)) := block_cell (HFU.out.others _ _ HX5.out (by intro e; injection e with e; omega) (fun c fz e => by injection e with e1 e2 e3; cases e2))
                obtain ⟨pa, pb, kx, _⟩ := ent_allQ HKU.out.2 HXL.out
                have k0 : U.cell? ⟨x.g, 0, none⟩ = some (.string x.key) := block_cell kx
                have k1 : U.cell? ⟨x.g, 1, none⟩ = some (.int .i64 x.c.k) := block_cell kx
                have k2 : U.cell? ⟨x.g, 2, none⟩ = some (.int .i64 x.c.n) := block_cell kx
                have k3 : U.cell? ⟨x.g, 3, none⟩ = some (.string x.c.s) := block_cell kx
                have HTU : Hid (Lib.TabBelow Tryd.prog wb U "internal/strconv.uint64pow10" .u64 Lib.pow10Tab) := Lib.hid (fun w' h' => HT.out w' (((HF5.out.trans HFU.out).below hle.1).trans h'))
                clear hWV kx
                have CP := Lib.hid (aput_any wb B _ x.c U HWU.out (by simp; simp at HLN; omega) (by have := HSX.out.2.1; omega) HSX.out.2.2.1.1 HSX.out.2.2.1.2 HSX.out.2.2.2.1 HSX.out.2.2.2.2 HTU.out)
                clear hw9 hf9' hkp9 hD9 hL9 HFV HWV HKV HDV HLV HTV CT
                gi_wp2_with fail
                refine wpIn_region_any (by kernel_rfl) ?_
                change wpAnyIn _ _ _ _ _ _ _ _ _ (World.drew _)
                rw [← hV]
                clear hV
                refine wpAnyIn_ready (rs := [0, 1]) (by kernel_rfl) (by simp) ?_
                refine AllReadyIn.cons (o := _) rfl (fun K hK => ?_) ?_
                · go_simp
                  refine hK _ _ ?_
                  clear hK K
                  try simp only [List.getElem_toArray, List.getElem_cons_zero, List.getElem_cons_succ, Act.put, List.setIfInBounds_toArray, List.set_cons_zero, List.set_cons_succ]
                  refine wpAnyIn_ready (rs := [1]) (by kernel_rfl) (by simp) ?_
                  refine AllReadyIn.cons (o := _) rfl (fun K hK => ?_) ?_
                  · go_simp
                    refine hK _ _ ?_
                    clear hK K
                    try simp only [List.getElem_toArray, List.getElem_cons_zero, List.getElem_cons_succ, Act.put, List.setIfInBounds_toArray, List.set_cons_zero, List.set_cons_succ]
                    refine wpAnyIn_ready (rs := [2]) (by kernel_rfl) (by simp) ?_
                    refine AllReadyIn.cons (o := _) rfl (fun K hK => ?_) ?_
                    · go_simp
                      refine hK _ _ ?_
                      clear hK K
                      try simp only [List.getElem_toArray, List.getElem_cons_zero, List.getElem_cons_succ, Act.put, List.setIfInBounds_toArray, List.set_cons_zero, List.set_cons_succ]
                      refine wpAnyIn_ready (rs := [3]) (by kernel_rfl) (by simp) ?_
                      refine AllReadyIn.cons (o := _) rfl (fun K hK => ?_) ?_
                      · go_simp
                        refine hK _ _ ?_
                        clear hK K
                        try simp only [List.getElem_toArray, List.getElem_cons_zero, List.getElem_cons_succ, Act.put, List.setIfInBounds_toArray, List.set_cons_zero, List.set_cons_succ]
                        refine wpAnyIn_ready (rs := [4]) (by kernel_rfl) (by simp) ?_
                        refine AllReadyIn.cons (o := _) rfl (fun K hK => ?_) ?_
                        · go_simp
                          refine hK _ _ ?_
                          clear hK K
                          try simp only [List.getElem_toArray, List.getElem_cons_zero, List.getElem_cons_succ, Act.put, List.setIfInBounds_toArray, List.set_cons_zero, List.set_cons_succ]
                          refine wpAnyIn_ready (rs := [5]) (by kernel_rfl) (by simp) ?_
                          refine AllReadyIn.cons (o := _) rfl (fun K hK => ?_) ?_
                          · go_simp
                            refine (callsIn_wide.2 CP.out).mono ?_
                            rintro e w10 ⟨rfl, hw10, hf10⟩
                            refine hK _ _ ?_
                            clear hK K
                            try simp only [List.getElem_toArray, List.getElem_cons_zero, List.getElem_cons_succ, Act.put, List.setIfInBounds_toArray, List.set_cons_zero, List.set_cons_succ]
                            refine wpAnyIn_done (by kernel_rfl) ?_ _
                            gi_wp2_with fail
                            have HFZ := Lib.hid (HFU.out.trans hf10)
                            have hnb : ∀ (j : Nat) (o : Obj), U.heap[j]? = some o → j ≠ wb → (∀ c e fz, o ≠ .cells c e fz) → w10.heap[j]? = some o := fun j o h1 h2 h3 => hf10.others _ _ h1 (by intro e; injection e with e; exact h2 e) (fun c fz => h3 c _ fz)
                            refine ⟨⟨(hnb _ _ HDU.out (by omega) (fun c e fz e1 => by cases e1)).trans HD0.out.symm, ?_⟩, HKU.out.wfr hf10 HNB.out hwb, ?_, HFZ.out⟩
                            · refine (hnb _ _ HLU.out (by omega) (fun c e fz e1 => by cases e1)).trans HL0.out.symm
                            · have e1 : l ++ [40] ++ encL (pre ++ [x]) = l ++ [40] ++ encL pre ++ Lib.itoa x.key.size ++ [58] ++ x.key.data.toList ++ encC x.c := by rw [encL_snoc]; simp [encE, pT, List.append_assoc]
                              rw [e1]
                              exact hw10
                          exact AllReadyIn.nil
                        exact AllReadyIn.nil
                      exact AllReadyIn.nil
                    exact AllReadyIn.nil
                  exact AllReadyIn.nil
                refine AllReadyIn.cons (o := _) rfl (fun K hK => ?_) ?_
                · go_simp
                  refine hK _ _ ?_
                  clear hK K
                  try simp only [List.getElem_toArray, List.getElem_cons_zero, List.getElem_cons_succ, Act.put, List.setIfInBounds_toArray, List.set_cons_zero, List.set_cons_succ]
                  refine wpAnyIn_ready (rs := [0, 2]) (by kernel_rfl) (by simp) ?_
                  refine AllReadyIn.cons (o := _) rfl (fun K hK => ?_) ?_
                  · go_simp
                    refine hK _ _ ?_
                    clear hK K
                    try simp only [List.getElem_toArray, List.getElem_cons_zero, List.getElem_cons_succ, Act.put, List.setIfInBounds_toArray, List.set_cons_zero, List.set_cons_succ]
                    refine wpAnyIn_ready (rs := [2]) (by kernel_rfl) (by simp) ?_
                    refine AllReadyIn.cons (o := _) rfl (fun K hK => ?_) ?_
                    · go_simp
                      refine hK _ _ ?_
                      clear hK K
                      try simp only [List.getElem_toArray, List.getElem_cons_zero, List.getElem_cons_succ, Act.put, List.setIfInBounds_toArray, List.set_cons_zero, List.set_cons_succ]
                      refine wpAnyIn_ready (rs := [3]) (by kernel_rfl) (by simp) ?_
                      refine AllReadyIn.cons (o := _) rfl (fun K hK => ?_) ?_
                      · go_simp
                        refine hK _ _ ?_
                        clear hK K
                        try simp only [List.getElem_toArray, List.getElem_cons_zero, List.getElem_cons_succ, Act.put, List.setIfInBounds_toArray, List.set_cons_zero, List.set_cons_succ]
                        refine wpAnyIn_ready (rs := [4]) (by kernel_rfl) (by simp) ?_
                        refine AllReadyIn.cons (o := _) rfl (fun K hK => ?_) ?_
                        · go_simp
                          refine hK _ _ ?_
                          clear hK K
                          try simp only [List.getElem_toArray, List.getElem_cons_zero, List.getElem_cons_succ, Act.put, List.setIfInBounds_toArray, List.set_cons_zero, List.set_cons_succ]
                          refine wpAnyIn_ready (rs := [5]) (by kernel_rfl) (by simp) ?_
                          refine AllReadyIn.cons (o := _) rfl (fun K hK => ?_) ?_
                          · go_simp
                            refine (callsIn_wide.2 CP.out).mono ?_
                            rintro e w10 ⟨rfl, hw10, hf10⟩
                            refine hK _ _ ?_
                            clear hK K
                            try simp only [List.getElem_toArray, List.getElem_cons_zero, List.getElem_cons_succ, Act.put, List.setIfInBounds_toArray, List.set_cons_zero, List.set_cons_succ]
                            refine wpAnyIn_done (by kernel_rfl) ?_ _
                            gi_wp2_with fail
                            have HFZ := Lib.hid (HFU.out.trans hf10)
                            have hnb : ∀ (j : Nat) (o : Obj), U.heap[j]? = some o → j ≠ wb → (∀ c e fz, o ≠ .cells c e fz) → w10.heap[j]? = some o := fun j o h1 h2 h3 => hf10.others _ _ h1 (by intro e; injection e with e; exact h2 e) (fun c fz => h3 c _ fz)
                            refine ⟨⟨(hnb _ _ HDU.out (by omega) (fun c e fz e1 => by cases e1)).trans HD0.out.symm, ?_⟩, HKU.out.wfr hf10 HNB.out hwb, ?_, HFZ.out⟩
                            · refine (hnb _ _ HLU.out (by omega) (fun c e fz e1 => by cases e1)).trans HL0.out.symm
                            · have e1 : l ++ [40] ++ encL (pre ++ [x]) = l ++ [40] ++ encL pre ++ Lib.itoa x.key.size ++ [58] ++ x.key.data.toList ++ encC x.c := by rw [encL_snoc]; simp [encE, pT, List.append_assoc]
                              rw [e1]
                              exact hw10
                          exact AllReadyIn.nil
                        exact AllReadyIn.nil
                      exact AllReadyIn.nil
                    exact AllReadyIn.nil
                  refine AllReadyIn.cons (o := _) rfl (fun K hK => ?_) ?_
                  · go_simp
                    refine hK _ _ ?_
                    clear hK K
                    try simp only [List.getElem_toArray, List.getElem_cons_zero, List.getElem_cons_succ, Act.put, List.setIfInBounds_toArray, List.set_cons_zero, List.set_cons_succ]
                    refine wpAnyIn_ready (rs := [0, 3]) (by kernel_rfl) (by simp) ?_
                    refine AllReadyIn.cons (o := _) rfl (fun K hK => ?_) ?_
                    · go_simp
                      refine hK _ _ ?_
                      clear hK K
                      try simp only [List.getElem_toArray, List.getElem_cons_zero, List.getElem_cons_succ, Act.put, List.setIfInBounds_toArray, List.set_cons_zero, List.set_cons_succ]
                      refine wpAnyIn_ready (rs := [3]) (by kernel_rfl) (by simp) ?_
                      refine AllReadyIn.cons (o := _) rfl (fun K hK => ?_) ?_
                      · go_simp
                        refine hK _ _ ?_
                        clear hK K
                        try simp only [List.getElem_toArray, List.getElem_cons_zero, List.getElem_cons_succ, Act.put, List.setIfInBounds_toArray, List.set_cons_zero, List.set_cons_succ]
                        refine wpAnyIn_ready (rs := [4]) (by kernel_rfl) (by simp) ?_
                        refine AllReadyIn.cons (o := _) rfl (fun K hK => ?_) ?_
                        · go_simp
                          refine hK _ _ ?_
                          clear hK K
                          try simp only [List.getElem_toArray, List.getElem_cons_zero, List.getElem_cons_succ, Act.put, List.setIfInBounds_toArray, List.set_cons_zero, List.set_cons_succ]
                          refine wpAnyIn_ready (rs := [5]) (by kernel_rfl) (by simp) ?_
                          refine AllReadyIn.cons (o := _) rfl (fun K hK => ?_) ?_
                          · go_simp
                            refine (callsIn_wide.2 CP.out).mono ?_
                            rintro e w10 ⟨rfl, hw10, hf10⟩
                            refine hK _ _ ?_
                            clear hK K
                            try simp only [List.getElem_toArray, List.getElem_cons_zero, List.getElem_cons_succ, Act.put, List.setIfInBounds_toArray, List.set_cons_zero, List.set_cons_succ]
                            refine wpAnyIn_done (by kernel_rfl) ?_ _
                            gi_wp2_with fail
                            have HFZ := Lib.hid (HFU.out.trans hf10)
                            have hnb : ∀ (j : Nat) (o : Obj), U.heap[j]? = some o → j ≠ wb → (∀ c e fz, o ≠ .cells c e fz) → w10.heap[j]? = some o := fun j o h1 h2 h3 => hf10.others _ _ h1 (by intro e; injection e with e; exact h2 e) (fun c fz => h3 c _ fz)
                            refine ⟨⟨(hnb _ _ HDU.out (by omega) (fun c e fz e1 => by cases e1)).trans HD0.out.symm, ?_⟩, HKU.out.wfr hf10 HNB.out hwb, ?_, HFZ.out⟩
                            · refine (hnb _ _ HLU.out (by omega) (fun c e fz e1 => by cases e1)).trans HL0.out.symm
                            · have e1 : l ++ [40] ++ encL (pre ++ [x]) = l ++ [40] ++ encL pre ++ Lib.itoa x.key.size ++ [58] ++ x.key.data.toList ++ encC x.c := by rw [encL_snoc]; simp [encE, pT, List.append_assoc]
                              rw [e1]
                              exact hw10
                          exact AllReadyIn.nil
                        exact AllReadyIn.nil
                      exact AllReadyIn.nil
                    refine AllReadyIn.cons (o := _) rfl (fun K hK => ?_) ?_
                    · go_simp
                      refine hK _ _ ?_
                      clear hK K
                      try simp only [List.getElem_toArray, List.getElem_cons_zero, List.getElem_cons_succ, Act.put, List.setIfInBounds_toArray, List.set_cons_zero, List.set_cons_succ]
                      refine wpAnyIn_ready (rs := [0, 4]) (by kernel_rfl) (by simp) ?_
                      refine AllReadyIn.cons (o := _) rfl (fun K hK => ?_) ?_
                      · go_simp
                        refine hK _ _ ?_
                        clear hK K
                        try simp only [List.getElem_toArray, List.getElem_cons_zero, List.getElem_cons_succ, Act.put, List.setIfInBounds_toArray, List.set_cons_zero, List.set_cons_succ]
                        refine wpAnyIn_ready (rs := [4]) (by kernel_rfl) (by simp) ?_
                        refine AllReadyIn.cons (o := _) rfl (fun K hK => ?_) ?_
                        · go_simp
                          refine hK _ _ ?_
                          clear hK K
                          try simp only [List.getElem_toArray, List.getElem_cons_zero, List.getElem_cons_succ, Act.put, List.setIfInBounds_toArray, List.set_cons_zero, List.set_cons_succ]
                          refine wpAnyIn_ready (rs := [5]) (by kernel_rfl) (by simp) ?_
                          refine AllReadyIn.cons (o := _) rfl (fun K hK => ?_) ?_
                          · go_simp
                            refine (callsIn_wide.2 CP.out).mono ?_
                            rintro e w10 ⟨rfl, hw10, hf10⟩
                            refine hK _ _ ?_
                            clear hK K
                            try simp only [List.getElem_toArray, List.getElem_cons_zero, List.getElem_cons_succ, Act.put, List.setIfInBounds_toArray, List.set_cons_zero, List.set_cons_succ]
                            refine wpAnyIn_done (by kernel_rfl) ?_ _
                            gi_wp2_with fail
                            have HFZ := Lib.hid (HFU.out.trans hf10)
                            have hnb : ∀ (j : Nat) (o : Obj), U.heap[j]? = some o → j ≠ wb → (∀ c e fz, o ≠ .cells c e fz) → w10.heap[j]? = some o := fun j o h1 h2 h3 => hf10.others _ _ h1 (by intro e; injection e with e; exact h2 e) (fun c fz => h3 c _ fz)
                            refine ⟨⟨(hnb _ _ HDU.out (by omega) (fun c e fz e1 => by cases e1)).trans HD0.out.symm, ?_⟩, HKU.out.wfr hf10 HNB.out hwb, ?_, HFZ.out⟩
                            · refine (hnb _ _ HLU.out (by omega) (fun c e fz e1 => by cases e1)).trans HL0.out.symm
                            · have e1 : l ++ [40] ++ encL (pre ++ [x]) = l ++ [40] ++ encL pre ++ Lib.itoa x.key.size ++ [58] ++ x.key.data.toList ++ encC x.c := by rw [encL_snoc]; simp [encE, pT, List.append_assoc]
                              rw [e1]
                              exact hw10
                          exact AllReadyIn.nil
                        exact AllReadyIn.nil
                      refine AllReadyIn.cons (o := _) rfl (fun K hK => ?_) ?_
                      · go_simp
                        refine hK _ _ ?_
                        clear hK K
                        try simp only [List.getElem_toArray, List.getElem_cons_zero, List.getElem_cons_succ, Act.put, List.setIfInBounds_toArray, List.set_cons_zero, List.set_cons_succ]
                        refine wpAnyIn_ready (rs := [0]) (by kernel_rfl) (by simp) ?_
                        refine AllReadyIn.cons (o := _) rfl (fun K hK => ?_) ?_
                        · go_simp
                          refine hK _ _ ?_
                          clear hK K
                          try simp only [List.getElem_toArray, List.getElem_cons_zero, List.getElem_cons_succ, Act.put, List.setIfInBounds_toArray, List.set_cons_zero, List.set_cons_succ]
                          refine wpAnyIn_ready (rs := [5]) (by kernel_rfl) (by simp) ?_
                          refine AllReadyIn.cons (o := _) rfl (fun K hK => ?_) ?_
                          · go_simp
                            refine (callsIn_wide.2 CP.out).mono ?_
                            rintro e w10 ⟨rfl, hw10, hf10⟩
                            refine hK _ _ ?_
                            clear hK K
                            try simp only [List.getElem_toArray, List.getElem_cons_zero, List.getElem_cons_succ, Act.put, List.setIfInBounds_toArray, List.set_cons_zero, List.set_cons_succ]
                            refine wpAnyIn_done (by kernel_rfl) ?_ _
                            gi_wp2_with fail
                            have HFZ := Lib.hid (HFU.out.trans hf10)
                            have hnb : ∀ (j : Nat) (o : Obj), U.heap[j]? = some o → j ≠ wb → (∀ c e fz, o ≠ .cells c e fz) → w10.heap[j]? = some o := fun j o h1 h2 h3 => hf10.others _ _ h1 (by intro e; injection e with e; exact h2 e) (fun c fz => h3 c _ fz)
                            refine ⟨⟨(hnb _ _ HDU.out (by omega) (fun c e fz e1 => by cases e1)).trans HD0.out.symm, ?_⟩, HKU.out.wfr hf10 HNB.out hwb, ?_, HFZ.out⟩
                            · refine (hnb _ _ HLU.out (by omega) (fun c e fz e1 => by cases e1)).trans HL0.out.symm
                            · have e1 : l ++ [40] ++ encL (pre ++ [x]) = l ++ [40] ++ encL pre ++ Lib.itoa x.key.size ++ [58] ++ x.key.data.toList ++ encC x.c := by rw [encL_snoc]; simp [encE, pT, List.append_assoc]
                              rw [e1]
                              exact hw10
                          exact AllReadyIn.nil
                        exact AllReadyIn.nil
                      exact AllReadyIn.nil
                    exact AllReadyIn.nil
                  exact AllReadyIn.nil
                exact AllReadyIn.nil
              exact AllReadyIn.nil
            exact AllReadyIn.nil
          refine AllReadyIn.cons (o := _) rfl (fun K hK => ?_) ?_
          · go_simp
            refine hK _ _ ?_
            clear hK K
            try simp only [List.getElem_toArray, List.getElem_cons_zero, List.getElem_cons_succ, Act.put, List.setIfInBounds_toArray, List.set_cons_zero, List.set_cons_succ]
            refine wpAnyIn_ready (rs := [0]) (by kernel_rfl) (by simp) ?_
            refine AllReadyIn.cons (o := _) rfl (fun K hK => ?_) ?_
            · go_simp
              refine hK _ _ ?_
              clear hK K
              try simp only [List.getElem_toArray, List.getElem_cons_zero, List.getElem_cons_succ, Act.put, List.setIfInBounds_toArray, List.set_cons_zero, List.set_cons_succ]
              refine wpAnyIn_ready (rs := [5]) (by kernel_rfl) (by simp) ?_
              refine AllReadyIn.cons (o := _) rfl (fun K hK => ?_) ?_
              · go_simp
                refine (callsIn_wide.2 CT.out).mono ?_
                rintro e w9 ⟨rfl, hw9, hf9⟩
                refine hK _ _ ?_
                clear hK K
                try simp only [List.getElem_toArray, List.getElem_cons_zero, List.getElem_cons_succ, Act.put, List.setIfInBounds_toArray, List.set_cons_zero, List.set_cons_succ]
                refine wpAnyIn_done (by kernel_rfl) ?_ _
                have hf9' := HFV.out.trans hf9
                have hnb : ∀ (j : Nat) (o : Obj), V.heap[j]? = some o → j ≠ wb → (∀ c e fz, o ≠ .cells c e fz) → w9.heap[j]? = some o := fun j o h1 h2 h3 => hf9.others _ _ h1 (by intro e; injection e with e; exact h2 e) (fun c fz => h3 c _ fz)
                have hkp9 := HKV.out.wfr hf9 HNB.out hwb
                have hD9 := hnb _ _ HDV.out (by omega) (fun c e fz e1 => by cases e1)
                have hL9 := hnb _ _ HLV.out (by omega) (fun c e fz e1 => by cases e1)
                clear hnb hf9 hbx k0 k1 k2 k3
                have hWV : Below w9.heap.size w9 w9.drew := ⟨rfl, rfl, rfl, Nat.le_refl _, fun _ _ => rfl⟩
                obtain ⟨U, hV⟩ : ∃ U, U = w9.drew := ⟨_, rfl⟩
                rw [← hV] at hWV
                have HFU := Lib.hid (hf9'.trans (WFr.ofBelow hWV (by have := hf9'.size; omega)))
                have HWU := Lib.hid (hw9.kept hWV)
                have HKU := Lib.hid (KpE.next hkp9 hWV)
                have HDU := Lib.hid ((hWV.block _ (block_lt hD9)).trans hD9)
                have HLU := Lib.hid ((hWV.block _ (block_lt hL9)).trans hL9)
                have hbx : U.cell? ⟨w.heap.size, 0, none⟩ = some (.pointer (some ⟨wb, 0, none⟩)) := block_cell (HFU.out.others _ _ HX5.out (by intro e; injection e with e; omega) (fun c fz e => by injection e with e1 e2 e3; cases e2))
                obtain ⟨pa, pb, kx, _⟩ := ent_allQ HKU.out.2 HXL.out
                have k0 : U.cell? ⟨x.g, 0, none⟩ = some (.string x.key) := block_cell kx
                have k1 : U.cell? ⟨x.g, 1, none⟩ = some (.int .i64 x.c.k) := block_cell kx
                have k2 : U.cell? ⟨x.g, 2, none⟩ = some (.int .i64 x.c.n) := block_cell kx
                have k3 : U.cell? ⟨x.g, 3, none⟩ = some (.string x.c.s) := block_cell kx
                have HTU : Hid (Lib.TabBelow Tryd.prog wb U "internal/strconv.uint64pow10" .u64 Lib.pow10Tab) := Lib.hid (fun w' h' => HT.out w' (((HF5.out.trans HFU.out).below hle.1).trans h'))
                clear hWV kx
                have CP := Lib.hid (aput_any wb B _ x.c U HWU.out (by simp; simp at HLN; omega) (by have := HSX.out.2.1; omega) HSX.out.2.2.1.1 HSX.out.2.2.1.2 HSX.out.2.2.2.1 HSX.out.2.2.2.2 HTU.out)
                clear hw9 hf9' hkp9 hD9 hL9 HFV HWV HKV HDV HLV HTV CT
                gi_wp2_with fail
                refine wpIn_region_any (by kernel_rfl) ?_
                change wpAnyIn _ _ _ _ _ _ _ _ _ (World.drew _)
                rw [← hV]
                clear hV
                refine wpAnyIn_ready (rs := [0, 1]) (by kernel_rfl) (by simp) ?_
                refine AllReadyIn.cons (o := _) rfl (fun K hK => ?_) ?_
                · go_simp
                  refine hK _ _ ?_
                  clear hK K
                  try simp only [List.getElem_toArray, List.getElem_cons_zero, List.getElem_cons_succ, Act.put, List.setIfInBounds_toArray, List.set_cons_zero, List.set_cons_succ]
                  refine wpAnyIn_ready (rs := [1]) (by kernel_rfl) (by simp) ?_
                  refine AllReadyIn.cons (o := _) rfl (fun K hK => ?_) ?_
                  · go_simp
                    refine hK _ _ ?_
                    clear hK K
                    try simp only [List.getElem_toArray, List.getElem_cons_zero, List.getElem_cons_succ, Act.put, List.setIfInBounds_toArray, List.set_cons_zero, List.set_cons_succ]
                    refine wpAnyIn_ready (rs := [2]) (by kernel_rfl) (by simp) ?_
                    refine AllReadyIn.cons (o := _) rfl (fun K hK => ?_) ?_
                    · go_simp
                      refine hK _ _ ?_
                      clear hK K
                      try simp only [List.getElem_toArray, List.getElem_cons_zero, List.getElem_cons_succ, Act.put, List.setIfInBounds_toArray, List.set_cons_zero, List.set_cons_succ]
                      refine wpAnyIn_ready (rs := [3]) (by kernel_rfl) (by simp) ?_
                      refine AllReadyIn.cons (o := _) rfl (fun K hK => ?_) ?_
                      · go_simp
                        refine hK _ _ ?_
                        clear hK K
                        try simp only [List.getElem_toArray, List.getElem_cons_zero, List.getElem_cons_succ, Act.put, List.setIfInBounds_toArray, List.set_cons_zero, List.set_cons_succ]
                        refine wpAnyIn_ready (rs := [4]) (by kernel_rfl) (by simp) ?_
                        refine AllReadyIn.cons (o := _) rfl (fun K hK => ?_) ?_
                        · go_simp
                          refine hK _ _ ?_
                          clear hK K
                          try simp only [List.getElem_toArray, List.getElem_cons_zero, List.getElem_cons_succ, Act.put, List.setIfInBounds_toArray, List.set_cons_zero, List.set_cons_succ]
                          refine wpAnyIn_ready (rs := [5]) (by kernel_rfl) (by simp) ?_
                          refine AllReadyIn.cons (o := _) rfl (fun K hK => ?_) ?_
                          · go_simp
                            refine (callsIn_wide.2 CP.out).mono ?_
                            rintro e w10 ⟨rfl, hw10, hf10⟩
                            refine hK _ _ ?_
                            clear hK K
                            try simp only [List.getElem_toArray, List.getElem_cons_zero, List.getElem_cons_succ, Act.put, List.setIfInBounds_toArray, List.set_cons_zero, List.set_cons_succ]
                            refine wpAnyIn_done (by kernel_rfl) ?_ _
                            gi_wp2_with fail
                            have HFZ := Lib.hid (HFU.out.trans hf10)
                            have hnb : ∀ (j : Nat) (o : Obj), U.heap[j]? = some o → j ≠ wb → (∀ c e fz, o ≠ .cells c e fz) → w10.heap[j]? = some o := fun j o h1 h2 h3 => hf10.others _ _ h1 (by intro e; injection e with e; exact h2 e) (fun c fz => h3 c _ fz)
                            refine ⟨⟨(hnb _ _ HDU.out (by omega) (fun c e fz e1 => by cases e1)).trans HD0.out.symm, ?_⟩, HKU.out.wfr hf10 HNB.out hwb, ?_, HFZ.out⟩
                            · refine (hnb _ _ HLU.out (by omega) (fun c e fz e1 => by cases e1)).trans HL0.out.symm
                            · have e1 : l ++ [40] ++ encL (pre ++ [x]) = l ++ [40] ++ encL pre ++ Lib.itoa x.key.size ++ [58] ++ x.key.data.toList ++ encC x.c := by rw [encL_snoc]; simp [encE, pT, List.append_assoc]
                              rw [e1]
                              exact hw10
                          exact AllReadyIn.nil
                        exact AllReadyIn.nil
                      exact AllReadyIn.nil
                    exact AllReadyIn.nil
                  exact AllReadyIn.nil
                refine AllReadyIn.cons (o := _) rfl (fun K hK => ?_) ?_
                · go_simp
                  refine hK _ _ ?_
                  clear hK K
                  try simp only [List.getElem_toArray, List.getElem_cons_zero, List.getElem_cons_succ, Act.put, List.setIfInBounds_toArray, List.set_cons_zero, List.set_cons_succ]
                  refine wpAnyIn_ready (rs := [0, 2]) (by kernel_rfl) (by simp) ?_
                  refine AllReadyIn.cons (o := _) rfl (fun K hK => ?_) ?_
                  · go_simp
                    refine hK _ _ ?_
                    clear hK K
                    try simp only [List.getElem_toArray, List.getElem_cons_zero, List.getElem_cons_succ, Act.put, List.setIfInBounds_toArray, List.set_cons_zero, List.set_cons_succ]
                    refine wpAnyIn_ready (rs := [2]) (by kernel_rfl) (by simp) ?_
                    refine AllReadyIn.cons (o := _) rfl (fun K hK => ?_) ?_
                    · go_simp
                      refine hK _ _ ?_
                      clear hK K
                      try simp only [List.getElem_toArray, List.getElem_cons_zero, List.getElem_cons_succ, Act.put, List.setIfInBounds_toArray, List.set_cons_zero, List.set_cons_succ]
                      refine wpAnyIn_ready (rs := [3]) (by kernel_rfl) (by simp) ?_
                      refine AllReadyIn.cons (o := _) rfl (fun K hK => ?_) ?_
                      · go_simp
                        refine hK _ _ ?_
                        clear hK K
                        try simp only [List.getElem_toArray, List.getElem_cons_zero, List.getElem_cons_succ, Act.put, List.setIfInBounds_toArray, List.set_cons_zero, List.set_cons_succ]
                        refine wpAnyIn_ready (rs := [4]) (by kernel_rfl) (by simp) ?_
                        refine AllReadyIn.cons (o := _) rfl (fun K hK => ?_) ?_
                        · go_simp
                          refine hK _ _ ?_
                          clear hK K
                          try simp only [List.getElem_toArray, List.getElem_cons_zero, List.getElem_cons_succ, Act.put, List.setIfInBounds_toArray, List.set_cons_zero, List.set_cons_succ]
                          refine wpAnyIn_ready (rs := [5]) (by kernel_rfl) (by simp) ?_
                          refine AllReadyIn.cons (o := _) rfl (fun K hK => ?_) ?_
                          · go_simp
                            refine (callsIn_wide.2 CP.out).mono ?_
                            rintro e w10 ⟨rfl, hw10, hf10⟩
                            refine hK _ _ ?_
                            clear hK K
                            try simp only [List.getElem_toArray, List.getElem_cons_zero, List.getElem_cons_succ, Act.put, List.setIfInBounds_toArray, List.set_cons_zero, List.set_cons_succ]
                            refine wpAnyIn_done (by kernel_rfl) ?_ _
                            gi_wp2_with fail
                            have HFZ := Lib.hid (HFU.out.trans hf10)
                            have hnb : ∀ (j : Nat) (o : Obj), U.heap[j]? = some o → j ≠ wb → (∀ c e fz, o ≠ .cells c e fz) → w10.heap[j]? = some o := fun j o h1 h2 h3 => hf10.others _ _ h1 (by intro e; injection e with e; exact h2 e) (fun c fz => h3 c _ fz)
                            refine ⟨⟨(hnb _ _ HDU.out (by omega) (fun c e fz e1 => by cases e1)).trans HD0.out.symm, ?_⟩, HKU.out.wfr hf10 HNB.out hwb, ?_, HFZ.out⟩
                            · refine (hnb _ _ HLU.out (by omega) (fun c e fz e1 => by cases e1)).trans HL0.out.symm
                            · have e1 : l ++ [40] ++ encL (pre ++ [x]) = l ++ [40] ++ encL pre ++ Lib.itoa x.key.size ++ [58] ++ x.key.data.toList ++ encC x.c := by rw [encL_snoc]; simp [encE, pT, List.append_assoc]
                              rw [e1]
                              exact hw10
                          exact AllReadyIn.nil
                        exact AllReadyIn.nil
                      exact AllReadyIn.nil
                    exact AllReadyIn.nil
                  refine AllReadyIn.cons (o := _) rfl (fun K hK => ?_) ?_
                  · go_simp
                    refine hK _ _ ?_
                    clear hK K
                    try simp only [List.getElem_toArray, List.getElem_cons_zero, List.getElem_cons_succ, Act.put, List.setIfInBounds_toArray, List.set_cons_zero, List.set_cons_succ]
                    refine wpAnyIn_ready (rs := [0, 3]) (by kernel_rfl) (by simp) ?_
                    refine AllReadyIn.cons (o := _) rfl (fun K hK => ?_) ?_
                    · go_simp
                      refine hK _ _ ?_
                      clear hK K
                      try simp only [List.getElem_toArray, List.getElem_cons_zero, List.getElem_cons_succ, Act.put, List.setIfInBounds_toArray, List.set_cons_zero, List.set_cons_succ]
                      refine wpAnyIn_ready (rs := [3]) (by kernel_rfl) (by simp) ?_
                      refine AllReadyIn.cons (o := _) rfl (fun K hK => ?_) ?_
                      · go_simp
                        refine hK _ _ ?_
                        clear hK K
                        try simp only [List.getElem_toArray, List.getElem_cons_zero, List.getElem_cons_succ, Act.put, List.setIfInBounds_toArray, List.set_cons_zero, List.set_cons_succ]
                        refine wpAnyIn_ready (rs := [4]) (by kernel_rfl) (by simp) ?_
                        refine AllReadyIn.cons (o := _) rfl (fun K hK => ?_) ?_
                        · go_simp
                          refine hK _ _ ?_
                          clear hK K
                          try simp only [List.getElem_toArray, List.getElem_cons_zero, List.getElem_cons_succ, Act.put, List.setIfInBounds_toArray, List.set_cons_zero, List.set_cons_succ]
                          refine wpAnyIn_ready (rs := [5]) (by kernel_rfl) (by simp) ?_
                          refine AllReadyIn.cons (o := _) rfl (fun K hK => ?_) ?_
                          · go_simp
                            refine (callsIn_wide.2 CP.out).mono ?_
                            rintro e w10 ⟨rfl, hw10, hf10⟩
                            refine hK _ _ ?_
                            clear hK K
                            try simp only [List.getElem_toArray, List.getElem_cons_zero, List.getElem_cons_succ, Act.put, List.setIfInBounds_toArray, List.set_cons_zero, List.set_cons_succ]
                            refine wpAnyIn_done (by kernel_rfl) ?_ _
                            gi_wp2_with fail
                            have HFZ := Lib.hid (HFU.out.trans hf10)
                            have hnb : ∀ (j : Nat) (o : Obj), U.heap[j]? = some o → j ≠ wb → (∀ c e fz, o ≠ .cells c e fz) → w10.heap[j]? = some o := fun j o h1 h2 h3 => hf10.others _ _ h1 (by intro e; injection e with e; exact h2 e) (fun c fz => h3 c _ fz)
                            refine ⟨⟨(hnb _ _ HDU.out (by omega) (fun c e fz e1 => by cases e1)).trans HD0.out.symm, ?_⟩, HKU.out.wfr hf10 HNB.out hwb, ?_, HFZ.out⟩
                            · refine (hnb _ _ HLU.out (by omega) (fun c e fz e1 => by cases e1)).trans HL0.out.symm
                            · have e1 : l ++ [40] ++ encL (pre ++ [x]) = l ++ [40] ++ encL pre ++ Lib.itoa x.key.size ++ [58] ++ x.key.data.toList ++ encC x.c := by rw [encL_snoc]; simp [encE, pT, List.append_assoc]
                              rw [e1]
                              exact hw10
                          exact AllReadyIn.nil
                        exact AllReadyIn.nil
                      exact AllReadyIn.nil
                    refine AllReadyIn.cons (o := _) rfl (fun K hK => ?_) ?_
                    · go_simp
                      refine hK _ _ ?_
                      clear hK K
                      try simp only [List.getElem_toArray, List.getElem_cons_zero, List.getElem_cons_succ, Act.put, List.setIfInBounds_toArray, List.set_cons_zero, List.set_cons_succ]
                      refine wpAnyIn_ready (rs := [0, 4]) (by kernel_rfl) (by simp) ?_
                      refine AllReadyIn.cons (o := _) rfl (fun K hK => ?_) ?_
                      · go_simp
                        refine hK _ _ ?_
                        clear hK K
                        try simp only [List.getElem_toArray, List.getElem_cons_zero, List.getElem_cons_succ, Act.put, List.setIfInBounds_toArray, List.set_cons_zero, List.set_cons_succ]
                        refine wpAnyIn_ready (rs := [4]) (by kernel_rfl) (by simp) ?_
                        refine AllReadyIn.cons (o := _) rfl (fun K hK => ?_) ?_
                        · go_simp
                          refine hK _ _ ?_
                          clear hK K
                          try simp only [List.getElem_toArray, List.getElem_cons_zero, List.getElem_cons_succ, Act.put, List.setIfInBounds_toArray, List.set_cons_zero, List.set_cons_succ]
                          refine wpAnyIn_ready (rs := [5]) (by kernel_rfl) (by simp) ?_
                          refine AllReadyIn.cons (o := _) rfl (fun K hK => ?_) ?_
                          · go_simp
                            refine (callsIn_wide.2 CP.out).mono ?_
                            rintro e w10 ⟨rfl, hw10, hf10⟩
                            refine hK _ _ ?_
                            clear hK K
                            try simp only [List.getElem_toArray, List.getElem_cons_zero, List.getElem_cons_succ, Act.put, List.setIfInBounds_toArray, List.set_cons_zero, List.set_cons_succ]
                            refine wpAnyIn_done (by kernel_rfl) ?_ _
                            gi_wp2_with fail
                            have HFZ := Lib.hid (HFU.out.trans hf10)
                            have hnb : ∀ (j : Nat) (o : Obj), U.heap[j]? = some o → j ≠ wb → (∀ c e fz, o ≠ .cells c e fz) → w10.heap[j]? = some o := fun j o h1 h2 h3 => hf10.others _ _ h1 (by intro e; injection e with e; exact h2 e) (fun c fz => h3 c _ fz)
                            refine ⟨⟨(hnb _ _ HDU.out (by omega) (fun c e fz e1 => by cases e1)).trans HD0.out.symm, ?_⟩, HKU.out.wfr hf10 HNB.out hwb, ?_, HFZ.out⟩
                            · refine (hnb _ _ HLU.out (by omega) (fun c e fz e1 => by cases e1)).trans HL0.out.symm
                            · have e1 : l ++ [40] ++ encL (pre ++ [x]) = l ++ [40] ++ encL pre ++ Lib.itoa x.key.size ++ [58] ++ x.key.data.toList ++ encC x.c := by rw [encL_snoc]; simp [encE, pT, List.append_assoc]
                              rw [e1]
                              exact hw10
                          exact AllReadyIn.nil
                        exact AllReadyIn.nil
                      refine AllReadyIn.cons (o := _) rfl (fun K hK => ?_) ?_
                      · go_simp
                        refine hK _ _ ?_
                        clear hK K
                        try simp only [List.getElem_toArray, List.getElem_cons_zero, List.getElem_cons_succ, Act.put, List.setIfInBounds_toArray, List.set_cons_zero, List.set_cons_succ]
                        refine wpAnyIn_ready (rs := [0]) (by kernel_rfl) (by simp) ?_
                        refine AllReadyIn.cons (o := _) rfl (fun K hK => ?_) ?_
                        · go_simp
                          refine hK _ _ ?_
                          clear hK K
                          try simp only [List.getElem_toArray, List.getElem_cons_zero, List.getElem_cons_succ, Act.put, List.setIfInBounds_toArray, List.set_cons_zero, List.set_cons_succ]
                          refine wpAnyIn_ready (rs := [5]) (by kernel_rfl) (by simp) ?_
                          refine AllReadyIn.cons (o := _) rfl (fun K hK => ?_) ?_
                          · go_simp
                            refine (callsIn_wide.2 CP.out).mono ?_
                            rintro e w10 ⟨rfl, hw10, hf10⟩
                            refine hK _ _ ?_
                            clear hK K
                            try simp only [List.getElem_toArray, List.getElem_cons_zero, List.getElem_cons_succ, Act.put, List.setIfInBounds_toArray, List.set_cons_zero, List.set_cons_succ]
                            refine wpAnyIn_done (by kernel_rfl) ?_ _
                            gi_wp2_with fail
                            have HFZ := Lib.hid (HFU.out.trans hf10)
                            have hnb : ∀ (j : Nat) (o : Obj), U.heap[j]? = some o → j ≠ wb → (∀ c e fz, o ≠ .cells c e fz) → w10.heap[j]? = some o := fun j o h1 h2 h3 => hf10.others _ _ h1 (by intro e; injection e with e; exact h2 e) (fun c fz => h3 c _ fz)
                            refine ⟨⟨(hnb _ _ HDU.out (by omega) (fun c e fz e1 => by cases e1)).trans HD0.out.symm, ?_⟩, HKU.out.wfr hf10 HNB.out hwb, ?_, HFZ.out⟩
                            · refine (hnb _ _ HLU.out (by omega) (fun c e fz e1 => by cases e1)).trans HL0.out.symm
                            · have e1 : l ++ [40] ++ encL (pre ++ [x]) = l ++ [40] ++ encL pre ++ Lib.itoa x.key.size ++ [58] ++ x.key.data.toList ++ encC x.c := by rw [encL_snoc]; simp [encE, pT, List.append_assoc]
                              rw [e1]
                              exact hw10
                          exact AllReadyIn.nil
                        exact AllReadyIn.nil
                      exact AllReadyIn.nil
                    exact AllReadyIn.nil
                  exact AllReadyIn.nil
                exact AllReadyIn.nil
              exact AllReadyIn.nil
            exact AllReadyIn.nil
          exact AllReadyIn.nil
        exact AllReadyIn.nil
      exact AllReadyIn.nil
    exact AllReadyIn.nil
  case done =>
    rintro D xs W rfl ⟨hw, hf⟩ hkp rfl hD
    have hbx : W.cell? ⟨w.heap.size, 0, none⟩ = some (.pointer (some ⟨wb, 0, none⟩)) := block_cell (hf.others _ _ HX5.out (by intro e; injection e with e; omega) (fun c fz e => by injection e with e1 e2 e3; cases e2))
    have HPL := encL_len xs HS.out
    have CC := Lib.hid (wclose_any wb B _ W hw (by rw [List.length_append, List.length_append, List.length_singleton]; omega))
    have HFW := Lib.hid (HF5.out.trans hf)
    have HD6 := Lib.hid hD
    have HKP := Lib.hid hkp
    have HNB : Hid (bs ≠ wb) := Lib.hid (by have := HF5.out.size; omega)
    have hzW := hf.size
    clear hw hf hkp hD HPL
    gi_wp2_with fail
    refine ⟨trivial, (callsIn_wide.2 CC.out).mono ?_⟩
    rintro e w7 ⟨rfl, hw7, hf7⟩
    have HD7 : Hid (w7.heap[w5.heap.size]? = some (.deferred (some []))) := Lib.hid (hf7.others _ _ HD6.out (by intro e; injection e with e; omega) (fun c fz e => by cases e))
    have HF7 := Lib.hid (HFW.out.trans hf7)
    have HK7 := Lib.hid (HKP.out.wfr hf7 HNB.out hwb)
    have HW7 := Lib.hid hw7
    clear hw7 hf7
    gi_wp2
    have hz7 : w5.heap.size < w7.heap.size := block_lt HD7.out
    have hW : Wr (w7.putObj w5.heap.size (.deferred none)) wb B (l ++ [40] ++ encL xs ++ [41]) := HW7.out.putQ HD7.out (fun _ _ _ e => by cases e) (by omega) _
    have hF : WFr wb B w (w7.putObj w5.heap.size (.deferred none)) := HF7.out.putQ (by omega) (by omega) _
    have hA : AV (w7.putObj w5.heap.size (.deferred none)) b mm xs := HK7.out.2.kept fun j hj => World.putObj_heap_other (by have := HA.out.own_lt hj; omega)
    refine ⟨by simp, .inl ⟨_, _, rfl, run_takeDeferred HD7.out, ?_⟩⟩
    refine ⟨.tuple #[], ?_, ⟨rfl, hW, (hF.below hle.1).mono hB0, hA, hF⟩⟩
    simp [results, Tryd.results5, go_sem]
end Go.Proofs.YtjnhaglcigpknaaDoor
