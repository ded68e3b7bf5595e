/-
  THE WALK of AstOther.
-/
import Derived.Test.YtgahamppfdhnaaaDoorAsOtW0
namespace Go.Proofs.YtgahamppfdhnaaaDoor
open Go.RowKit

theorem Tryd.infoPart : (Tryd.prog.info? 53).map (fun i => (i.zero, i.size, i.bytes)) = some (some (.agg #[.string ⟨#[]⟩, .string ⟨#[]⟩, .int .i64 0, .int .i64 0]), 4, 48) := by kernel_rfl
theorem as_form {w : World} {B n z : Nat} {e : TypeId} {v : Value} {xs : List Value} (h : w.ownsRow B e z v n xs) : ∃ p c, v = .slice p n c := by
  rcases h.2 with ⟨rfl, h0⟩ | ⟨g, cap, _, rfl, _⟩
  · exact ⟨none, 0, by rw [h0]⟩
  · exact ⟨_, _, rfl⟩
set_option maxHeartbeats 8000000 in
set_option maxRecDepth 100000 in
theorem other_walk (q : Option Addr) (cap : Nat) (l : List Pa) (ix : Int) (text : ByteArray) (w : World) (hA : PaAt w q l) (hl : l.length ≤ maxLen) (hcap : l.length ≤ cap) (hok : ∀ a ∈ l, a.ok) (hlb : l.length * 48 ≤ 140737488351232) (hts : text.size ≤ maxLen) (htab : Lib.TabBelow Tryd.prog w.heap.size w "internal/strconv.uint64pow10" .u64 Lib.pow10Tab) :
    Calls Tryd.prog 7 #[.slice q l.length cap, .int .i64 ix, .string text] w fun e w' => e = .returned (.bool true) ∧ Below w.heap.size w w' := by
  have CG := Lib.hid (gw_any q cap l w hA hok hl hcap)
  have htz := treeOf_size l
  have HTE : Hid (∀ (i : Nat) (hi : i < l.length), i < 30 → text.size ≤ 15 → sameT (treeOf l) (treeOf (setTx l i text)) = eqB (cutB l[i].tx 20) text) := Lib.hid fun i hi h30 h15 => treeOf_set hi h30 (by omega)
  have HTZ2 := Lib.hid fun i => treeOf_size (setTx l i text)
  have HA := Lib.hid hA
  have HOK := Lib.hid hok
  have HLB := Lib.hid hlb
  clear hlb
  generalize treeOf l = t at *
  have HT := Lib.hid htab
  have hl' := hl
  unfold maxLen at hl'
  clear hA hok htab hcap hl
  go_enter Tryd.func7, Tryd.ntmps7
  go_wp2_with fail
  refine CG.out.mono ?_
  rintro e w1 ⟨⟨n1, n2, n3, n4, n5, n6⟩, ⟨m1, m2, m3, m4, m5, m6⟩, rfl, hv, _, hb1⟩
  obtain ⟨hkn, _⟩ := hv.trs
  obtain rfl : n5 = t.ks.length := hkn
  simp only [Nd.val]
  have hb2 : Below w1.heap.size w1 ((w1.alloc (.cells #[.string n1, .string n2, .int .i64 n3, .slice n4 t.ks.length n6] 25)).alloc (.cells #[.string m1, .string m2, .int .i64 m3, .slice m4 m5 m6] 28)) := ((Below.refl _ _).alloc (Nat.le_refl _) _).alloc (by simp) _
  have hnn : NodeAt ((w1.alloc (.cells #[.string n1, .string n2, .int .i64 n3, .slice n4 t.ks.length n6] 25)).alloc (.cells #[.string m1, .string m2, .int .i64 m3, .slice m4 m5 m6] 28)) w1.heap.size 0 ⟨n1, n2, n3, n4, t.ks.length, n6⟩ := (node_new w1 ⟨n1, n2, n3, n4, t.ks.length, n6⟩).kept (Below.heap_alloc _ _ _ (by simp))
  have hz2 : ((w1.alloc (.cells #[.string n1, .string n2, .int .i64 n3, .slice n4 t.ks.length n6] 25)).alloc (.cells #[.string m1, .string m2, .int .i64 m3, .slice m4 m5 m6] 28)).heap.size = w1.heap.size + 2 := by simp
  have HV := Lib.hid (hv.next hb2)
  have HNN := Lib.hid hnn
  have HB1 := Lib.hid hb1
  have HB2 := Lib.hid (hb1.trans (hb2.mono hb1.size))
  clear hv hb1 hnn hb2 CG
  by_cases h0 : l.length = 0
  · have b0 : ((l.length : Int) == 0) = true := by rw [beq_iff_eq]; omega
    go_wp2_with fail
    generalize ((w1.alloc (.cells #[.string n1, .string n2, .int .i64 n3, .slice n4 t.ks.length n6] 25)).alloc (.cells #[.string m1, .string m2, .int .i64 m3, .slice m4 m5 m6] 28)) = W2 at *
    refine (awake_any W2 (as_tab HT.out HB2.out HB2.out.size)).mono ?_
    rintro e w3 ⟨rfl, hb3⟩
    have HB3 := Lib.hid (HB2.out.trans (hb3.mono HB2.out.size))
    have HV3 := Lib.hid (HV.out.next hb3)
    obtain ⟨y0, y1, y2, y3⟩ := HNN.out.kept (hb3.block _ HNN.out.lt)
    simp only at y0 y1 y2 y3
    have C1 := Lib.hid (same_of _ _ _ _ _ _ w3 HV3.out HV3.out (by omega))
    rw [sameT_self] at C1
    simp only [Nd.val] at C1
    clear hb3 HB2 HV HNN
    go_wp2_with fail
    refine C1.out.mono ?_
    rintro e w4 ⟨rfl, hb4⟩
    have HB4 := Lib.hid (HB3.out.trans (hb4.mono HB3.out.size))
    clear hb4 C1 HB3 HV3
    go_wp2_with fail
    go_ret
    exact ⟨rfl, HB4.out⟩
  have b0 : ((l.length : Int) == 0) = false := by rw [beq_eq_false_iff_ne]; omega
  by_cases h1 : ix < 0
  · go_wp2_with fail
    generalize ((w1.alloc (.cells #[.string n1, .string n2, .int .i64 n3, .slice n4 t.ks.length n6] 25)).alloc (.cells #[.string m1, .string m2, .int .i64 m3, .slice m4 m5 m6] 28)) = W2 at *
    refine (awake_any W2 (as_tab HT.out HB2.out HB2.out.size)).mono ?_
    rintro e w3 ⟨rfl, hb3⟩
    have HB3 := Lib.hid (HB2.out.trans (hb3.mono HB2.out.size))
    have HV3 := Lib.hid (HV.out.next hb3)
    obtain ⟨y0, y1, y2, y3⟩ := HNN.out.kept (hb3.block _ HNN.out.lt)
    simp only at y0 y1 y2 y3
    have C1 := Lib.hid (same_of _ _ _ _ _ _ w3 HV3.out HV3.out (by omega))
    rw [sameT_self] at C1
    simp only [Nd.val] at C1
    clear hb3 HB2 HV HNN
    go_wp2_with fail
    refine C1.out.mono ?_
    rintro e w4 ⟨rfl, hb4⟩
    have HB4 := Lib.hid (HB3.out.trans (hb4.mono HB3.out.size))
    clear hb4 C1 HB3 HV3
    go_wp2_with fail
    go_ret
    exact ⟨rfl, HB4.out⟩
  by_cases h2 : (l.length : Int) ≤ ix
  · go_wp2_with fail
    generalize ((w1.alloc (.cells #[.string n1, .string n2, .int .i64 n3, .slice n4 t.ks.length n6] 25)).alloc (.cells #[.string m1, .string m2, .int .i64 m3, .slice m4 m5 m6] 28)) = W2 at *
    refine (awake_any W2 (as_tab HT.out HB2.out HB2.out.size)).mono ?_
    rintro e w3 ⟨rfl, hb3⟩
    have HB3 := Lib.hid (HB2.out.trans (hb3.mono HB2.out.size))
    have HV3 := Lib.hid (HV.out.next hb3)
    obtain ⟨y0, y1, y2, y3⟩ := HNN.out.kept (hb3.block _ HNN.out.lt)
    simp only at y0 y1 y2 y3
    have C1 := Lib.hid (same_of _ _ _ _ _ _ w3 HV3.out HV3.out (by omega))
    rw [sameT_self] at C1
    simp only [Nd.val] at C1
    clear hb3 HB2 HV HNN
    go_wp2_with fail
    refine C1.out.mono ?_
    rintro e w4 ⟨rfl, hb4⟩
    have HB4 := Lib.hid (HB3.out.trans (hb4.mono HB3.out.size))
    clear hb4 C1 HB3 HV3
    go_wp2_with fail
    go_ret
    exact ⟨rfl, HB4.out⟩
  by_cases h3 : (30 : Int) ≤ ix
  · go_wp2_with fail
    generalize ((w1.alloc (.cells #[.string n1, .string n2, .int .i64 n3, .slice n4 t.ks.length n6] 25)).alloc (.cells #[.string m1, .string m2, .int .i64 m3, .slice m4 m5 m6] 28)) = W2 at *
    refine (awake_any W2 (as_tab HT.out HB2.out HB2.out.size)).mono ?_
    rintro e w3 ⟨rfl, hb3⟩
    have HB3 := Lib.hid (HB2.out.trans (hb3.mono HB2.out.size))
    have HV3 := Lib.hid (HV.out.next hb3)
    obtain ⟨y0, y1, y2, y3⟩ := HNN.out.kept (hb3.block _ HNN.out.lt)
    simp only at y0 y1 y2 y3
    have C1 := Lib.hid (same_of _ _ _ _ _ _ w3 HV3.out HV3.out (by omega))
    rw [sameT_self] at C1
    simp only [Nd.val] at C1
    clear hb3 HB2 HV HNN
    go_wp2_with fail
    refine C1.out.mono ?_
    rintro e w4 ⟨rfl, hb4⟩
    have HB4 := Lib.hid (HB3.out.trans (hb4.mono HB3.out.size))
    clear hb4 C1 HB3 HV3
    go_wp2_with fail
    go_ret
    exact ⟨rfl, HB4.out⟩
  by_cases h4 : (15 : Int) < (text.size : Int)
  · go_wp2_with fail
    generalize ((w1.alloc (.cells #[.string n1, .string n2, .int .i64 n3, .slice n4 t.ks.length n6] 25)).alloc (.cells #[.string m1, .string m2, .int .i64 m3, .slice m4 m5 m6] 28)) = W2 at *
    refine (awake_any W2 (as_tab HT.out HB2.out HB2.out.size)).mono ?_
    rintro e w3 ⟨rfl, hb3⟩
    have HB3 := Lib.hid (HB2.out.trans (hb3.mono HB2.out.size))
    have HV3 := Lib.hid (HV.out.next hb3)
    obtain ⟨y0, y1, y2, y3⟩ := HNN.out.kept (hb3.block _ HNN.out.lt)
    simp only at y0 y1 y2 y3
    have C1 := Lib.hid (same_of _ _ _ _ _ _ w3 HV3.out HV3.out (by omega))
    rw [sameT_self] at C1
    simp only [Nd.val] at C1
    clear hb3 HB2 HV HNN
    go_wp2_with fail
    refine C1.out.mono ?_
    rintro e w4 ⟨rfl, hb4⟩
    have HB4 := Lib.hid (HB3.out.trans (hb4.mono HB3.out.size))
    clear hb4 C1 HB3 HV3
    go_wp2_with fail
    go_ret
    exact ⟨rfl, HB4.out⟩
  obtain ⟨k, rfl⟩ : ∃ k : Nat, ix = k := ⟨ix.toNat, by omega⟩
  have hk : k < l.length := by omega
  have hk30 : k < 30 := by omega
  have h15 : text.size ≤ 15 := by omega
  have hst := HTE.out k hk hk30 h15
  have HTZ := Lib.hid (HTZ2.out k)
  obtain ⟨u, hu⟩ : ∃ u, u = treeOf (setTx l k text) := ⟨_, rfl⟩
  rw [← hu] at hst HTZ
  have HU := Lib.hid hu
  obtain ⟨a, rfl, _, _, hatx, _, _⟩ := HA.out k hk
  have hab : (a.add (k * 4)).block < w.heap.size := by obtain ⟨_, h, h2, _⟩ := HA.out k hk; injection h with h; subst h; rw [add_blockP]; exact h2
  have hpr := paRow_cells HA.out
  obtain ⟨j0, hj0, jz0, jz1, jz2⟩ := info_parts Tryd.infoPart
  have hab2 : (a.add (k * 4)).block < w1.heap.size := Nat.lt_of_lt_of_le hab HB1.out.size
  have HATX : Hid (∀ W, Below w.heap.size w W → W.cell? ⟨(a.add (k * 4)).block, (a.add (k * 4)).off + 1, none⟩ = some (.string l[k].tx)) := Lib.hid fun W hW => (hW.cell (p := ⟨(a.add (k * 4)).block, (a.add (k * 4)).off + 1, none⟩) hab).trans hatx
  have HST := Lib.hid hst
  have HPR := Lib.hid hpr
  have HK := Lib.hid hk
  clear hst hu hpr hatx HTE HTZ2
  have hb3a := Lib.hid (HB2.out.alloc HB2.out.size (.cells #[] 53))
  go_wp2_with (at_builtin; refine wpList_append_own_at _ rfl (.tmp 47) (.tmp 48) 22 rfl ((w1.alloc (.cells #[.string n1, .string n2, .int .i64 n3, .slice n4 t.ks.length n6] 25)).alloc (.cells #[.string m1, .string m2, .int .i64 m3, .slice m4 m5 m6] 28)).heap.size 53 j0 (.agg #[.string ⟨#[]⟩, .string ⟨#[]⟩, .int .i64 0, .int .i64 0]) 4 48 Tryd.underlying22 hj0 jz0 jz1 jz2 rfl (by decide) (.slice (some ⟨((w1.alloc (.cells #[.string n1, .string n2, .int .i64 n3, .slice n4 t.ks.length n6] 25)).alloc (.cells #[.string m1, .string m2, .int .i64 m3, .slice m4 m5 m6] 28)).heap.size, 0, none⟩) 0 0) 0 [] ?v0 (World.ownsRow_made ((w1.alloc (.cells #[.string n1, .string n2, .int .i64 n3, .slice n4 t.ks.length n6] 25)).alloc (.cells #[.string m1, .string m2, .int .i64 m3, .slice m4 m5 m6] 28)) #[] 0 (Nat.le_refl _) (by decide) rfl) a l.length cap (paRow l) rfl (paRow_len l) ?c1 (paRow_one l) ?c3 ?c4 ?c5 ?_)
  case c1 =>
    intro j u hj
    refine (Below.cell (p := a.add j) (hb3a.out) ?_).trans (HPR.out j u hj)
    exact World.block_lt_of_cell? _ _ (HPR.out j u hj)
  case c3 => have := HLB.out; unfold maxLen; omega
  case c4 => have := HLB.out; omega
  intro v5 w5 hown5 hgrow5 _ hat5
  obtain ⟨g5, c5, rfl⟩ := as_pos hown5 (by omega)
  generalize hW2 : ((w1.alloc (.cells #[.string n1, .string n2, .int .i64 n3, .slice n4 t.ks.length n6] 25)).alloc (.cells #[.string m1, .string m2, .int .i64 m3, .slice m4 m5 m6] 28)) = W2 at *
  have hb5 : Below W2.heap.size W2 w5 := ((Below.refl _ _).alloc (Nat.le_refl _) _).grown hgrow5 (by simp) (fun j hj => by
    have : w1.heap.size + 2 = j := by simpa [Value.ownBlock] using hj
    omega)
  have HV5 := Lib.hid (HV.out.next hb5)
  have HN5 := Lib.hid (HNN.out.kept (hb5.block _ HNN.out.lt))
  have HB5 := Lib.hid (HB2.out.trans (hb5.mono HB2.out.size))
  have hg5 := (hown5.lt g5 rfl).1
  have hrl : k * 4 + 1 < l.length * 4 := by omega
  have hce : w5.cell? ⟨g5, k * 4 + 1, none⟩ = some (.string l[k].tx) := by
    rw [hown5.cellAt (k * 4 + 1) (by omega), paRow_get _ k 1 hk (by omega)]; rfl
  have hfe : w5.frozen? ⟨g5, k * 4 + 1, none⟩ = false := hown5.frozenAt _
  have hst5 := (hown5.stored (k * 4 + 1) (.string text)).1
  rw [paRow_set l k text hk] at hst5
  have hpa := PaAt.ofRow hst5 (setTx_len l k text).symm
  have hc5 : l.length ≤ c5 := by
    rcases hown5.2 with ⟨h, _⟩ | ⟨_, _, _, h, _, _, h2, _⟩
    · cases h
    · injection h with _ _ h; omega
  have hb6 : Below W2.heap.size W2 (w5.setCell ⟨g5, k * 4 + 1, none⟩ (.string text)) := hb5.setCell (p := ⟨g5, k * 4 + 1, none⟩) (by show W2.heap.size ≤ g5; omega) _
  have HB6 := Lib.hid (HB2.out.trans (hb6.mono HB2.out.size))
  have HV6 := Lib.hid (HV.out.next hb6)
  have HN6 := Lib.hid (HNN.out.kept (hb6.block _ HNN.out.lt))
  have CG2 := Lib.hid (gw_any (some ⟨g5, 0, none⟩) c5 (setTx l k text) _ hpa (fun x hx => by
    obtain ⟨i, hi, rfl⟩ := List.getElem_of_mem hx
    have hi2 : i < l.length := by rw [setTx_len] at hi; exact hi
    rw [setTx_at hi2]
    obtain ⟨o1, o2, o3, o4⟩ := HOK.out l[i] (List.getElem_mem hi2)
    split
    · exact ⟨o1, hts, o3, o4⟩
    · exact ⟨o1, o2, o3, o4⟩) (by rw [setTx_len]; unfold maxLen; exact hl') (by rw [setTx_len]; exact hc5))
  rw [← HU.out, setTx_len] at CG2
  clear hown5 hgrow5 hat5 hb5 hst5 hpa hb6 HV HNN HB2 hb3a HV5 HN5 HB5 HPR HA hz2
  generalize hTX : l[k].tx = tx at *
  clear hTX
  go_wp2_with fail
  refine CG2.out.mono ?_
  rintro e w7 ⟨⟨p1, p2, p3, p4, p5, p6⟩, ⟨r1, r2, r3, r4, r5, r6⟩, rfl, hv7, _, hb7⟩
  simp only [Nd.val]
  have hb8 : Below w7.heap.size w7 ((w7.alloc (.cells #[.string p1, .string p2, .int .i64 p3, .slice p4 p5 p6] 25)).alloc (.cells #[.string r1, .string r2, .int .i64 r3, .slice r4 r5 r6] 28)) := ((Below.refl _ _).alloc (Nat.le_refl _) _).alloc (by simp) _
  have hnp : NodeAt ((w7.alloc (.cells #[.string p1, .string p2, .int .i64 p3, .slice p4 p5 p6] 25)).alloc (.cells #[.string r1, .string r2, .int .i64 r3, .slice r4 r5 r6] 28)) w7.heap.size 0 ⟨p1, p2, p3, p4, p5, p6⟩ := (node_new w7 ⟨p1, p2, p3, p4, p5, p6⟩).kept (Below.heap_alloc _ _ _ (by simp))
  have hb67 : Below (w5.setCell ⟨g5, k * 4 + 1, none⟩ (.string text)).heap.size (w5.setCell ⟨g5, k * 4 + 1, none⟩ (.string text)) ((w7.alloc (.cells #[.string p1, .string p2, .int .i64 p3, .slice p4 p5 p6] 25)).alloc (.cells #[.string r1, .string r2, .int .i64 r3, .slice r4 r5 r6] 28)) := hb7.trans (hb8.mono hb7.size)
  have HB8 := Lib.hid (HB6.out.trans (hb67.mono HB6.out.size))
  have HV8 := Lib.hid (HV6.out.next hb67)
  have HN8 := Lib.hid (HN6.out.kept (hb67.block _ HN6.out.lt))
  have HW8 := Lib.hid (hv7.next hb8)
  have HP8 := Lib.hid hnp
  have htx8 := HATX.out _ HB8.out
  clear hv7 hb7 hb8 hnp hb67 HV6 HN6 HB6 CG2 hce hfe
  obtain ⟨_, nds, hnl, htr, hkd⟩ := HV8.out.trs
  obtain ⟨i0, hi0, hz0, hz1, hz2⟩ := info_parts Tryd.infoNode
  have hkl : t.ks.length ≤ 30 := by
    have := told_sizeL_len t.ks
    have : t.size = 1 + sizeL t.ks := by cases t; rw [T.size]; rfl
    omega
  have hb9 : Below ((w7.alloc (.cells #[.string p1, .string p2, .int .i64 p3, .slice p4 p5 p6] 25)).alloc (.cells #[.string r1, .string r2, .int .i64 r3, .slice r4 r5 r6] 28)).heap.size ((w7.alloc (.cells #[.string p1, .string p2, .int .i64 p3, .slice p4 p5 p6] 25)).alloc (.cells #[.string r1, .string r2, .int .i64 r3, .slice r4 r5 r6] 28)) ((((w7.alloc (.cells #[.string p1, .string p2, .int .i64 p3, .slice p4 p5 p6] 25)).alloc (.cells #[.string r1, .string r2, .int .i64 r3, .slice r4 r5 r6] 28)).alloc (.cells #[.string n1, .string n2, .int .i64 n3, .slice n4 t.ks.length n6] 25)).alloc (.cells #[] 25)) := ((Below.refl _ _).alloc (Nat.le_refl _) _).alloc (by simp) _
  have hz9 : ((w7.alloc (.cells #[.string p1, .string p2, .int .i64 p3, .slice p4 p5 p6] 25)).alloc (.cells #[.string r1, .string r2, .int .i64 r3, .slice r4 r5 r6] 28)).heap.size = w7.heap.size + 2 := by simp
  have hown9 := World.ownsRow_made (e := 25) (size := 4) (base := w7.heap.size + 3) (((w7.alloc (.cells #[.string p1, .string p2, .int .i64 p3, .slice p4 p5 p6] 25)).alloc (.cells #[.string r1, .string r2, .int .i64 r3, .slice r4 r5 r6] 28)).alloc (.cells #[.string n1, .string n2, .int .i64 n3, .slice n4 t.ks.length n6] 25)) #[] 0 (by simp) (by decide) rfl
  have hs9 : (((w7.alloc (.cells #[.string p1, .string p2, .int .i64 p3, .slice p4 p5 p6] 25)).alloc (.cells #[.string r1, .string r2, .int .i64 r3, .slice r4 r5 r6] 28)).alloc (.cells #[.string n1, .string n2, .int .i64 n3, .slice n4 t.ks.length n6] 25)).heap.size = w7.heap.size + 3 := by simp
  rw [hs9] at hown9
  obtain ⟨v10, w10, hr9, hown10, hgrow10, hat10⟩ := append_kids (nds := nds) (p := n4) (c := n6) hown9 (by simp) (by
    rcases hkd with h | ⟨kg, ko, h1, h2⟩
    · left
      rw [h] at hnl
      exact List.length_eq_zero_iff.1 (by simpa using hnl)
    · exact .inr ⟨kg, ko, h1, fun i hi => (h2 i hi).kept (hb9.block _ (h2 i hi).lt)⟩) (by omega) 23
  rw [hnl] at hr9 hown10
  obtain ⟨vp, vc, rfl⟩ := as_form hown10
  have hmo : ((((w7.alloc (.cells #[.string p1, .string p2, .int .i64 p3, .slice p4 p5 p6] 25)).alloc (.cells #[.string r1, .string r2, .int .i64 r3, .slice r4 r5 r6] 28)).alloc (.cells #[.string n1, .string n2, .int .i64 n3, .slice n4 t.ks.length n6] 25)).alloc (.cells #[] 25)).heap[w7.heap.size + 2]? = some (.cells #[.string n1, .string n2, .int .i64 n3, .slice n4 t.ks.length n6] 25 (0, 0)) := by
    have := as_heap_alloc ((w7.alloc (.cells #[.string p1, .string p2, .int .i64 p3, .slice p4 p5 p6] 25)).alloc (.cells #[.string r1, .string r2, .int .i64 r3, .slice r4 r5 r6] 28)) (.cells #[.string n1, .string n2, .int .i64 n3, .slice n4 t.ks.length n6] 25)
    rw [hz9] at this
    exact (Below.heap_alloc _ _ _ (by simp)).trans this
  have hb10 : Below ((w7.alloc (.cells #[.string p1, .string p2, .int .i64 p3, .slice p4 p5 p6] 25)).alloc (.cells #[.string r1, .string r2, .int .i64 r3, .slice r4 r5 r6] 28)).heap.size ((w7.alloc (.cells #[.string p1, .string p2, .int .i64 p3, .slice p4 p5 p6] 25)).alloc (.cells #[.string r1, .string r2, .int .i64 r3, .slice r4 r5 r6] 28)) w10 := hb9.grown hgrow10 (by first | (simp; done) | (simp; omega)) (fun j hj => by
    have : w7.heap.size + 3 = j := by simpa using hj
    simp; omega)
  have hmo10 := (hgrow10.block (w7.heap.size + 2) (by simp) (fun e => by have := Option.some.inj e; omega)).trans hmo
  obtain ⟨x0, x1, x2, x3⟩ := HN8.out.kept (hb9.block _ HN8.out.lt)
  simp only at x0 x1 x2 x3
  have HZ10 : Hid (w7.heap.size + 3 ≤ w10.heap.size) := Lib.hid (by have := hgrow10.size; simp at this; omega)
  have HO10 := Lib.hid hown10
  have HM10 := Lib.hid hmo10
  have HB10 := Lib.hid hb10
  have HTR := Lib.hid htr
  have HNL := Lib.hid hnl
  have HHR : Hid _ := Lib.hid hr9
  clear hown9 hown10 hgrow10 hat10 hkd hmo hb9 htr hnl hb10 hmo10
  obtain ⟨y0, y1, y2, y3⟩ := HN8.out
  simp only at y0 y1 y2 y3
  by_cases h20 : (20 : Int) < (tx.size : Int)
  · have hcut : Hid (tx.extract 0 20 = cutB tx 20) := Lib.hid (by unfold cutB; rw [if_pos (by omega)])
    go_wp2_with (at_builtin; refine as_append_run _ rfl (.tmp 71) (.tmp 73) 23 23 rfl _ _ rfl rfl _ _ hr9 ?_)
    rintro v2 w2 ⟨rfl⟩ ⟨rfl⟩
    go_wp2_with (at_builtin; refine wpList_append_own_at _ rfl (.tmp 74) (.tmp 76) 23 rfl (w7.heap.size + 3) 25 i0 (.agg #[.string ⟨#[]⟩, .string ⟨#[]⟩, .int .i64 0, .slice none 0 0]) 4 64 Tryd.underlying23 hi0 hz0 hz1 hz2 rfl (by decide) (.slice vp t.ks.length vc) t.ks.length (ndRow nds) rfl (HO10.out.alloc _) ⟨w10.heap.size, 0, none⟩ 1 1 (Nd.vals ⟨⟨#[]⟩, ⟨#[]⟩, 0, none, 0, 0⟩) rfl rfl ?f1 ?f2 ?f3 ?f4 ?f5 ?_)
    case f1 => exact node_cells_new w10 _ ⟨⟨#[]⟩, ⟨#[]⟩, 0, none, 0, 0⟩
    case f2 => simp [Nd.vals, Value.oneCell']
    case f3 => unfold maxLen; omega
    case f4 => omega
    case f5 => have := HZ10.out; simp; omega
    intro v11 w11 hown11 hgrow11 _ hat11
    obtain ⟨g11, c11, rfl⟩ := as_pos hown11 (by omega)
    have hb11 : Below ((w7.alloc (.cells #[.string p1, .string p2, .int .i64 p3, .slice p4 p5 p6] 25)).alloc (.cells #[.string r1, .string r2, .int .i64 r3, .slice r4 r5 r6] 28)).heap.size ((w7.alloc (.cells #[.string p1, .string p2, .int .i64 p3, .slice p4 p5 p6] 25)).alloc (.cells #[.string r1, .string r2, .int .i64 r3, .slice r4 r5 r6] 28)) w11 := (HB10.out.alloc HB10.out.size _).grown hgrow11 (by have := HZ10.out; simp; omega) (fun j hj => by have := (HO10.out.lt j hj).1; simp; omega)
    have hmo11 := (hgrow11.block (w7.heap.size + 2) (by have := HZ10.out; simp; omega) (fun e => by have := (HO10.out.lt _ e.symm).1; omega)).trans ((Below.heap_alloc _ _ _ (by have := HZ10.out; omega)).trans HM10.out)
    have q3 : w11.cell? ⟨w7.heap.size + 2, 3, none⟩ = some (.slice n4 t.ks.length n6) := as_cell hmo11
    have qf : w11.frozen? ⟨w7.heap.size + 2, 3, none⟩ = false := as_frozen hmo11
    have hg11 := (hown11.lt g11 rfl).1
    have hb12 : Below ((w7.alloc (.cells #[.string p1, .string p2, .int .i64 p3, .slice p4 p5 p6] 25)).alloc (.cells #[.string r1, .string r2, .int .i64 r3, .slice r4 r5 r6] 28)).heap.size ((w7.alloc (.cells #[.string p1, .string p2, .int .i64 p3, .slice p4 p5 p6] 25)).alloc (.cells #[.string r1, .string r2, .int .i64 r3, .slice r4 r5 r6] 28)) (w11.setCell ⟨w7.heap.size + 2, 3, none⟩ (.slice (some ⟨g11, 0, none⟩) (t.ks.length + 1) c11)) := hb11.setCell (p := ⟨w7.heap.size + 2, 3, none⟩) (by simp) _
    have hmo12 := as_setCell_block (i := 3) hmo11 (.slice (some ⟨g11, 0, none⟩) (t.ks.length + 1) c11)
    have hmn : NodeAt (w11.setCell ⟨w7.heap.size + 2, 3, none⟩ (.slice (some ⟨g11, 0, none⟩) (t.ks.length + 1) c11)) (w7.heap.size + 2) 0 ⟨n1, n2, n3, some ⟨g11, 0, none⟩, t.ks.length + 1, c11⟩ := ⟨as_cell hmo12, as_cell hmo12, as_cell hmo12, as_cell hmo12⟩
    have hown12 := as_own_kept (w' := w11.setCell ⟨w7.heap.size + 2, 3, none⟩ (.slice (some ⟨g11, 0, none⟩) (t.ks.length + 1) c11)) hown11 (fun g hg => by
      have : g11 = g := by simpa [Value.ownBlock] using hg
      exact Below.heap_setCell w11 ⟨w7.heap.size + 2, 3, none⟩ _ g (by show g ≠ w7.heap.size + 2; omega))
    have htr12 : Trs (w11.setCell ⟨w7.heap.size + 2, 3, none⟩ (.slice (some ⟨g11, 0, none⟩) (t.ks.length + 1) c11)) (fun g => w.heap.size ≤ g) (t.ks ++ [.mk ⟨#[]⟩ ⟨#[]⟩ 0 []]) (nds ++ [⟨⟨#[]⟩, ⟨#[]⟩, 0, none, 0, 0⟩]) :=
      Trs.snoc ⟨[], ⟨rfl, .inl rfl, MemL.nil _ _⟩, by simp [Nd.t, erL]⟩ (HTR.out.kept (fun g _ hl => hb12.block g hl) (fun _ h _ => h))
    have er12 : ndRow (nds ++ [⟨⟨#[]⟩, ⟨#[]⟩, 0, none, 0, 0⟩]) = ndRow nds ++ Nd.vals ⟨⟨#[]⟩, ⟨#[]⟩, 0, none, 0, 0⟩ := by rw [ndRow_append]; simp [ndRow]
    rw [← er12] at hown12
    obtain ⟨ks12, hks12, her12⟩ := gather (B' := fun g => w.heap.size ≤ g) rfl hown12 (by rw [List.length_append, HNL.out]; rfl) htr12 (fun _ h _ => h) (fun g hg => by have := (hown12.lt g hg).1; have := HB8.out.size; simp at this; show w.heap.size ≤ g; omega) n1 n2 n3
    have HVM : Hid (VT _ w.heap.size ⟨n1, n2, n3, some ⟨g11, 0, none⟩, t.ks.length + 1, c11⟩ (.mk n1 n2 n3 (t.ks ++ [.mk ⟨#[]⟩ ⟨#[]⟩ 0 []]))) := Lib.hid ⟨ks12, hks12, by rw [Nd.t, her12]⟩
    have HB12 := Lib.hid (HB8.out.trans (hb12.mono HB8.out.size))
    have HV12 := Lib.hid (HV8.out.next hb12)
    have HW12 := Lib.hid (HW8.out.next hb12)
    have HN12 := Lib.hid (HN8.out.kept (hb12.block _ HN8.out.lt))
    have HP12 := Lib.hid (HP8.out.kept (hb12.block _ HP8.out.lt))
    have HMN := Lib.hid hmn
    clear hown11 hgrow11 hat11 hb11 hmo11 hb12 hmo12 hmn hown12 htr12 er12 hks12 her12 HHR hr9 HV8 HW8 HN8 HP8 HM10 HO10 HB10 HTR y0 y1 y2 y3 x0 x1 x2 x3 htx8
    go_wp2_with fail
    generalize w11.setCell ⟨w7.heap.size + 2, 3, none⟩ (.slice (some ⟨g11, 0, none⟩) (t.ks.length + 1) c11) = W12 at *
    refine (awake_any W12 (as_tab HT.out HB12.out HB12.out.size)).mono ?_
    rintro e w13 ⟨rfl, hb13⟩
    have HB13 := Lib.hid (HB12.out.trans (hb13.mono HB12.out.size))
    have HV13 := Lib.hid (HV12.out.next hb13)
    have HW13 := Lib.hid (HW12.out.next hb13)
    have HVM13 := Lib.hid (HVM.out.next hb13)
    have HN13 := Lib.hid (HN12.out.kept (hb13.block _ HN12.out.lt))
    have HP13 := Lib.hid (HP12.out.kept (hb13.block _ HP12.out.lt))
    have HMN13 := Lib.hid (HMN.out.kept (hb13.block _ HMN.out.lt))
    obtain ⟨y0, y1, y2, y3⟩ := HN13.out
    simp only at y0 y1 y2 y3
    have C1 := Lib.hid (same_of _ _ _ _ _ _ w13 HV13.out HV13.out (by omega))
    rw [sameT_self] at C1
    simp only [Nd.val] at C1
    clear hb13 HB12 HV12 HW12 HVM HN12 HP12 HMN
    go_wp2_with fail
    refine C1.out.mono ?_
    rintro e w14 ⟨rfl, hb14⟩
    have HB14 := Lib.hid (HB13.out.trans (hb14.mono HB13.out.size))
    have HV14 := Lib.hid (HV13.out.next hb14)
    have HW14 := Lib.hid (HW13.out.next hb14)
    have HVM14 := Lib.hid (HVM13.out.next hb14)
    have HN14 := Lib.hid (HN13.out.kept (hb14.block _ HN13.out.lt))
    have HP14 := Lib.hid (HP13.out.kept (hb14.block _ HP13.out.lt))
    have HMN14 := Lib.hid (HMN13.out.kept (hb14.block _ HMN13.out.lt))
    obtain ⟨y0, y1, y2, y3⟩ := HN14.out
    obtain ⟨z0, z1, z2, z3⟩ := HP14.out
    simp only at y0 y1 y2 y3 z0 z1 z2 z3
    have C2 := Lib.hid (same_of _ _ _ _ _ _ w14 HV14.out HW14.out (by omega))
    rw [HST.out, ← hcut.out] at C2
    simp only [Nd.val] at C2
    clear hb14 HB13 HV13 HW13 HVM13 HN13 HP13 HMN13 C1
    go_wp2_with fail
    refine C2.out.mono ?_
    rintro e w15 ⟨rfl, hb15⟩
    have HB15 := Lib.hid (HB14.out.trans (hb15.mono HB14.out.size))
    obtain ⟨y0, y1, y2, y3⟩ := HN14.out.kept (hb15.block _ HN14.out.lt)
    obtain ⟨z0, z1, z2, z3⟩ := HMN14.out.kept (hb15.block _ HMN14.out.lt)
    simp only at y0 y1 y2 y3 z0 z1 z2 z3
    have C3 := Lib.hid (same_of _ _ _ _ _ _ w15 (HV14.out.next hb15) (HVM14.out.next hb15) (by omega))
    rw [sameT_more] at C3
    simp only [Nd.val] at C3
    clear hb15 HB14 HV14 HW14 HVM14 HN14 HP14 HMN14 C2
    have hbe : ∀ b : Bool, (b == b) = true := by decide
    unfold eqB
    go_wp2_with fail
    refine C3.out.mono ?_
    rintro e w16 ⟨rfl, hb16⟩
    have HB16 := Lib.hid (HB15.out.trans (hb16.mono HB15.out.size))
    clear hb16 HB15 C3
    go_wp2_with fail
    go_ret
    exact ⟨rfl, HB16.out⟩
  · have hcut : Hid (tx = cutB tx 20) := Lib.hid (by unfold cutB; rw [if_neg (by omega)])
    go_wp2_with (at_builtin; refine as_append_run _ rfl (.tmp 71) (.tmp 73) 23 23 rfl _ _ rfl rfl _ _ hr9 ?_)
    rintro v2 w2 ⟨rfl⟩ ⟨rfl⟩
    go_wp2_with (at_builtin; refine wpList_append_own_at _ rfl (.tmp 74) (.tmp 76) 23 rfl (w7.heap.size + 3) 25 i0 (.agg #[.string ⟨#[]⟩, .string ⟨#[]⟩, .int .i64 0, .slice none 0 0]) 4 64 Tryd.underlying23 hi0 hz0 hz1 hz2 rfl (by decide) (.slice vp t.ks.length vc) t.ks.length (ndRow nds) rfl (HO10.out.alloc _) ⟨w10.heap.size, 0, none⟩ 1 1 (Nd.vals ⟨⟨#[]⟩, ⟨#[]⟩, 0, none, 0, 0⟩) rfl rfl ?f1 ?f2 ?f3 ?f4 ?f5 ?_)
    case f1 => exact node_cells_new w10 _ ⟨⟨#[]⟩, ⟨#[]⟩, 0, none, 0, 0⟩
    case f2 => simp [Nd.vals, Value.oneCell']
    case f3 => unfold maxLen; omega
    case f4 => omega
    case f5 => have := HZ10.out; simp; omega
    intro v11 w11 hown11 hgrow11 _ hat11
    obtain ⟨g11, c11, rfl⟩ := as_pos hown11 (by omega)
    have hb11 : Below ((w7.alloc (.cells #[.string p1, .string p2, .int .i64 p3, .slice p4 p5 p6] 25)).alloc (.cells #[.string r1, .string r2, .int .i64 r3, .slice r4 r5 r6] 28)).heap.size ((w7.alloc (.cells #[.string p1, .string p2, .int .i64 p3, .slice p4 p5 p6] 25)).alloc (.cells #[.string r1, .string r2, .int .i64 r3, .slice r4 r5 r6] 28)) w11 := (HB10.out.alloc HB10.out.size _).grown hgrow11 (by have := HZ10.out; simp; omega) (fun j hj => by have := (HO10.out.lt j hj).1; simp; omega)
    have hmo11 := (hgrow11.block (w7.heap.size + 2) (by have := HZ10.out; simp; omega) (fun e => by have := (HO10.out.lt _ e.symm).1; omega)).trans ((Below.heap_alloc _ _ _ (by have := HZ10.out; omega)).trans HM10.out)
    have q3 : w11.cell? ⟨w7.heap.size + 2, 3, none⟩ = some (.slice n4 t.ks.length n6) := as_cell hmo11
    have qf : w11.frozen? ⟨w7.heap.size + 2, 3, none⟩ = false := as_frozen hmo11
    have hg11 := (hown11.lt g11 rfl).1
    have hb12 : Below ((w7.alloc (.cells #[.string p1, .string p2, .int .i64 p3, .slice p4 p5 p6] 25)).alloc (.cells #[.string r1, .string r2, .int .i64 r3, .slice r4 r5 r6] 28)).heap.size ((w7.alloc (.cells #[.string p1, .string p2, .int .i64 p3, .slice p4 p5 p6] 25)).alloc (.cells #[.string r1, .string r2, .int .i64 r3, .slice r4 r5 r6] 28)) (w11.setCell ⟨w7.heap.size + 2, 3, none⟩ (.slice (some ⟨g11, 0, none⟩) (t.ks.length + 1) c11)) := hb11.setCell (p := ⟨w7.heap.size + 2, 3, none⟩) (by simp) _
    have hmo12 := as_setCell_block (i := 3) hmo11 (.slice (some ⟨g11, 0, none⟩) (t.ks.length + 1) c11)
    have hmn : NodeAt (w11.setCell ⟨w7.heap.size + 2, 3, none⟩ (.slice (some ⟨g11, 0, none⟩) (t.ks.length + 1) c11)) (w7.heap.size + 2) 0 ⟨n1, n2, n3, some ⟨g11, 0, none⟩, t.ks.length + 1, c11⟩ := ⟨as_cell hmo12, as_cell hmo12, as_cell hmo12, as_cell hmo12⟩
    have hown12 := as_own_kept (w' := w11.setCell ⟨w7.heap.size + 2, 3, none⟩ (.slice (some ⟨g11, 0, none⟩) (t.ks.length + 1) c11)) hown11 (fun g hg => by
      have : g11 = g := by simpa [Value.ownBlock] using hg
      exact Below.heap_setCell w11 ⟨w7.heap.size + 2, 3, none⟩ _ g (by show g ≠ w7.heap.size + 2; omega))
    have htr12 : Trs (w11.setCell ⟨w7.heap.size + 2, 3, none⟩ (.slice (some ⟨g11, 0, none⟩) (t.ks.length + 1) c11)) (fun g => w.heap.size ≤ g) (t.ks ++ [.mk ⟨#[]⟩ ⟨#[]⟩ 0 []]) (nds ++ [⟨⟨#[]⟩, ⟨#[]⟩, 0, none, 0, 0⟩]) :=
      Trs.snoc ⟨[], ⟨rfl, .inl rfl, MemL.nil _ _⟩, by simp [Nd.t, erL]⟩ (HTR.out.kept (fun g _ hl => hb12.block g hl) (fun _ h _ => h))
    have er12 : ndRow (nds ++ [⟨⟨#[]⟩, ⟨#[]⟩, 0, none, 0, 0⟩]) = ndRow nds ++ Nd.vals ⟨⟨#[]⟩, ⟨#[]⟩, 0, none, 0, 0⟩ := by rw [ndRow_append]; simp [ndRow]
    rw [← er12] at hown12
    obtain ⟨ks12, hks12, her12⟩ := gather (B' := fun g => w.heap.size ≤ g) rfl hown12 (by rw [List.length_append, HNL.out]; rfl) htr12 (fun _ h _ => h) (fun g hg => by have := (hown12.lt g hg).1; have := HB8.out.size; simp at this; show w.heap.size ≤ g; omega) n1 n2 n3
    have HVM : Hid (VT _ w.heap.size ⟨n1, n2, n3, some ⟨g11, 0, none⟩, t.ks.length + 1, c11⟩ (.mk n1 n2 n3 (t.ks ++ [.mk ⟨#[]⟩ ⟨#[]⟩ 0 []]))) := Lib.hid ⟨ks12, hks12, by rw [Nd.t, her12]⟩
    have HB12 := Lib.hid (HB8.out.trans (hb12.mono HB8.out.size))
    have HV12 := Lib.hid (HV8.out.next hb12)
    have HW12 := Lib.hid (HW8.out.next hb12)
    have HN12 := Lib.hid (HN8.out.kept (hb12.block _ HN8.out.lt))
    have HP12 := Lib.hid (HP8.out.kept (hb12.block _ HP8.out.lt))
    have HMN := Lib.hid hmn
    clear hown11 hgrow11 hat11 hb11 hmo11 hb12 hmo12 hmn hown12 htr12 er12 hks12 her12 HHR hr9 HV8 HW8 HN8 HP8 HM10 HO10 HB10 HTR y0 y1 y2 y3 x0 x1 x2 x3 htx8
    go_wp2_with fail
    generalize w11.setCell ⟨w7.heap.size + 2, 3, none⟩ (.slice (some ⟨g11, 0, none⟩) (t.ks.length + 1) c11) = W12 at *
    refine (awake_any W12 (as_tab HT.out HB12.out HB12.out.size)).mono ?_
    rintro e w13 ⟨rfl, hb13⟩
    have HB13 := Lib.hid (HB12.out.trans (hb13.mono HB12.out.size))
    have HV13 := Lib.hid (HV12.out.next hb13)
    have HW13 := Lib.hid (HW12.out.next hb13)
    have HVM13 := Lib.hid (HVM.out.next hb13)
    have HN13 := Lib.hid (HN12.out.kept (hb13.block _ HN12.out.lt))
    have HP13 := Lib.hid (HP12.out.kept (hb13.block _ HP12.out.lt))
    have HMN13 := Lib.hid (HMN.out.kept (hb13.block _ HMN.out.lt))
    obtain ⟨y0, y1, y2, y3⟩ := HN13.out
    simp only at y0 y1 y2 y3
    have C1 := Lib.hid (same_of _ _ _ _ _ _ w13 HV13.out HV13.out (by omega))
    rw [sameT_self] at C1
    simp only [Nd.val] at C1
    clear hb13 HB12 HV12 HW12 HVM HN12 HP12 HMN
    go_wp2_with fail
    refine C1.out.mono ?_
    rintro e w14 ⟨rfl, hb14⟩
    have HB14 := Lib.hid (HB13.out.trans (hb14.mono HB13.out.size))
    have HV14 := Lib.hid (HV13.out.next hb14)
    have HW14 := Lib.hid (HW13.out.next hb14)
    have HVM14 := Lib.hid (HVM13.out.next hb14)
    have HN14 := Lib.hid (HN13.out.kept (hb14.block _ HN13.out.lt))
    have HP14 := Lib.hid (HP13.out.kept (hb14.block _ HP13.out.lt))
    have HMN14 := Lib.hid (HMN13.out.kept (hb14.block _ HMN13.out.lt))
    obtain ⟨y0, y1, y2, y3⟩ := HN14.out
    obtain ⟨z0, z1, z2, z3⟩ := HP14.out
    simp only at y0 y1 y2 y3 z0 z1 z2 z3
    have C2 := Lib.hid (same_of _ _ _ _ _ _ w14 HV14.out HW14.out (by omega))
    rw [HST.out, ← hcut.out] at C2
    simp only [Nd.val] at C2
    clear hb14 HB13 HV13 HW13 HVM13 HN13 HP13 HMN13 C1
    go_wp2_with fail
    refine C2.out.mono ?_
    rintro e w15 ⟨rfl, hb15⟩
    have HB15 := Lib.hid (HB14.out.trans (hb15.mono HB14.out.size))
    obtain ⟨y0, y1, y2, y3⟩ := HN14.out.kept (hb15.block _ HN14.out.lt)
    obtain ⟨z0, z1, z2, z3⟩ := HMN14.out.kept (hb15.block _ HMN14.out.lt)
    simp only at y0 y1 y2 y3 z0 z1 z2 z3
    have C3 := Lib.hid (same_of _ _ _ _ _ _ w15 (HV14.out.next hb15) (HVM14.out.next hb15) (by omega))
    rw [sameT_more] at C3
    simp only [Nd.val] at C3
    clear hb15 HB14 HV14 HW14 HVM14 HN14 HP14 HMN14 C2
    have hbe : ∀ b : Bool, (b == b) = true := by decide
    unfold eqB
    go_wp2_with fail
    refine C3.out.mono ?_
    rintro e w16 ⟨rfl, hb16⟩
    have HB16 := Lib.hid (HB15.out.trans (hb16.mono HB15.out.size))
    clear hb16 HB15 C3
    go_wp2_with fail
    go_ret
    exact ⟨rfl, HB16.out⟩
end Go.Proofs.YtgahamppfdhnaaaDoor
