/-
  THE WALK of AstKids.
-/
import Derived.Test.YtgahamppfdhnaaaDoorAsAw
namespace Go.Proofs.YtgahamppfdhnaaaDoor
open Go.RowKit

theorem as_tab {B : Nat} {w w1 : World} (htab : Lib.TabBelow Tryd.prog B w "internal/strconv.uint64pow10" .u64 Lib.pow10Tab) (hb : Below B w w1) (hB : B ≤ w1.heap.size) : Lib.TabBelow Tryd.prog w1.heap.size w1 "internal/strconv.uint64pow10" .u64 Lib.pow10Tab :=
  fun w' h' => htab w' (hb.trans (h'.mono hB))
/-- The kids of a tree's root, as values. -/
theorem VT.kids {w : World} {b : Nat} {n : Nd} {t : T} (h : VT w b n t) : t.op = n.op ∧ t.tx = n.tx ∧ t.pl = n.pl ∧ n.kn = t.ks.length ∧ ∃ nds : List Nd, nds.length = t.ks.length ∧
    (t.ks = [] ∨ ∃ kg ko, n.kp = some ⟨kg, ko, none⟩ ∧ b ≤ kg ∧ ∀ (i : Nat) (h : i < nds.length), NodeAt w kg (ko + i * 4) nds[i]) ∧
    ∀ (i : Nat) (h : i < t.ks.length) (h2 : i < nds.length), VT w b nds[i] t.ks[i] := by
  obtain ⟨ks, ⟨h1, h2, h3⟩, rfl⟩ := h
  refine ⟨rfl, rfl, rfl, by rw [h1, Nd.t, T.ks, erL_len], ks.map AT.nd, by rw [List.length_map, Nd.t, T.ks, erL_len], ?_, fun i hi hi2 => ?_⟩
  · rcases h2 with rfl | ⟨kg, ko, h4, h5⟩
    · left; rw [Nd.t, T.ks, erL]
    · rcases ks with _ | ⟨a, l⟩
      · left; rw [Nd.t, T.ks, erL]
      · right
        refine ⟨kg, ko, h4, ?_, fun i hi => ?_⟩
        · have h6 := Mem.iff.1 (h3.all a (by simp))
          have h7 := (h5 0 (by simp)).1
          simp only [List.getElem_cons_zero] at h7
          rw [← h7]; exact h6.1
        · have hi' : i < (a :: l).length := by simpa using hi
          have h6 := (Mem.iff.1 (h3.all (a :: l)[i] (List.getElem_mem hi'))).2.1
          rw [(h5 i hi').1, (h5 i hi').2] at h6
          rw [List.getElem_map]
          exact h6
  · have hi' : i < ks.length := by rw [Nd.t, T.ks, erL_len] at hi; exact hi
    obtain ⟨g1, g2, g3, g4⟩ := Mem.iff.1 (h3.all ks[i] (List.getElem_mem hi'))
    refine ⟨ks[i].ks, ⟨?_, ?_, g4⟩, ?_⟩
    · rw [List.getElem_map]; cases ks[i]; rfl
    · rw [List.getElem_map]; exact g3
    · rw [List.getElem_map]
      simp only [Nd.t, T.ks, erL_map, List.getElem_map]
      cases ks[i]
      simp [AT.nd, AT.ks, er, erL_map]
theorem sizeL_take : ∀ (l : List T) (k : Nat) (h : k < l.length), sizeL (l.take (k + 1)) = sizeL (l.take k) + l[k].size := by
  intro l k h
  rw [List.take_succ_eq_append_getElem h, sizeL_append, sizeL, sizeL]
  omega
theorem depthL_append : ∀ a b : List T, depthL (a ++ b) = max (depthL a) (depthL b)
  | [], b => by simp [depthL]
  | x :: l, b => by show depthL (x :: (l ++ b)) = _; rw [depthL, depthL, depthL_append l b]; omega
theorem depthL_take (l : List T) (k : Nat) (h : k < l.length) : depthL (l.take (k + 1)) = max (depthL (l.take k)) l[k].depth := by
  rw [List.take_succ_eq_append_getElem h, depthL_append, depthL, depthL]
  omega
theorem sizeL_mem : ∀ {l : List T} {x : T}, x ∈ l → x.size ≤ sizeL l
  | y :: l, x, h => by
    rw [sizeL]
    rcases List.mem_cons.1 h with rfl | h
    · omega
    · have := sizeL_mem h; omega
theorem sizeL_take_le (l : List T) (k : Nat) : sizeL (l.take k) ≤ sizeL l := by
  have := sizeL_append (l.take k) (l.drop k)
  rw [List.take_append_drop] at this
  omega
theorem depthL_take_le (l : List T) (k : Nat) : depthL (l.take k) ≤ depthL l := by
  have := depthL_append (l.take k) (l.drop k)
  rw [List.take_append_drop] at this
  omega
set_option maxHeartbeats 4000000 in
set_option maxRecDepth 100000 in
theorem kids_walk (q : Option Addr) (cap : Nat) (l : List Pa) (w : World) (hA : PaAt w q l) (hl : l.length ≤ maxLen) (hcap : l.length ≤ cap) (hok : ∀ a ∈ l, a.ok) (htab : Lib.TabBelow Tryd.prog w.heap.size w "internal/strconv.uint64pow10" .u64 Lib.pow10Tab) :
    Calls Tryd.prog 6 #[.slice q l.length cap] w fun e w' => e = .returned (.bool true) ∧ Below w.heap.size w w' := by
  have CG := Lib.hid (gw_any q cap l w hA hok hl hcap)
  have htz := treeOf_size l
  generalize treeOf l = t at *
  have HT := Lib.hid htab
  clear hA hok htab hl hcap
  go_enter Tryd.func6, Tryd.ntmps6
  go_wp2_with fail
  refine CG.out.mono ?_
  rintro e w1 ⟨⟨n1, n2, n3, n4, n5, n6⟩, ⟨m1, m2, m3, m4, m5, m6⟩, rfl, hv, _, hb1⟩
  simp only [Nd.val]
  obtain ⟨_, _, _, hkn, nds, hnl, hkd, hkv⟩ := hv.kids
  obtain rfl : n5 = t.ks.length := hkn
  have htk : t.size = 1 + sizeL t.ks := by cases t; rw [T.size]; rfl
  have htd : t.depth = 1 + depthL t.ks := by cases t; rw [T.depth]; rfl
  have hkl : t.ks.length ≤ 30 := by have := told_sizeL_len t.ks; omega
  have hds := depthL_size t.ks
  have hb2 : Below w1.heap.size w1 ((w1.alloc (.cells #[.string n1, .string n2, .int .i64 n3, .slice n4 t.ks.length n6] 25)).alloc (.cells #[.string m1, .string m2, .int .i64 m3, .slice m4 m5 m6] 28)) := ((Below.refl _ _).alloc (Nat.le_refl _) _).alloc (by simp) _
  have hnn : NodeAt ((w1.alloc (.cells #[.string n1, .string n2, .int .i64 n3, .slice n4 t.ks.length n6] 25)).alloc (.cells #[.string m1, .string m2, .int .i64 m3, .slice m4 m5 m6] 28)) w1.heap.size 0 ⟨n1, n2, n3, n4, t.ks.length, n6⟩ := (node_new w1 ⟨n1, n2, n3, n4, t.ks.length, n6⟩).kept (Below.heap_alloc _ _ _ (by simp))
  have HV := Lib.hid (hv.next hb2)
  have HKV : Hid (∀ W, Below w1.heap.size w1 W → ∀ (i : Nat) (h : i < t.ks.length) (h2 : i < nds.length), VT W w.heap.size nds[i] t.ks[i]) := Lib.hid fun W hW i h1 h2 => (hkv i h1 h2).next hW
  have HKD : Hid (t.ks = [] ∨ ∃ kg ko, n4 = some ⟨kg, ko, none⟩ ∧ ∀ W, Below w1.heap.size w1 W → ∀ (i : Nat) (h : i < nds.length), NodeAt W kg (ko + i * 4) nds[i]) := Lib.hid (hkd.imp id fun ⟨kg, ko, h1, _, h3⟩ => ⟨kg, ko, h1, fun W hW i hi => (h3 i hi).kept (hW.block _ (h3 i hi).lt)⟩)
  have HNN := Lib.hid hnn
  have HB1 := Lib.hid hb1
  have HB2 := Lib.hid hb2
  have HTK := Lib.hid htk
  have HTD := Lib.hid htd
  have HNL := Lib.hid hnl
  have HDS := Lib.hid hds
  clear hv hb1 hkd hkv hnn hb2 htk htd hnl hds CG
  go_wp2_with fail
  generalize ((w1.alloc (.cells #[.string n1, .string n2, .int .i64 n3, .slice n4 t.ks.length n6] 25)).alloc (.cells #[.string m1, .string m2, .int .i64 m3, .slice m4 m5 m6] 28)) = W2 at *
  go_loopw [5, 6, 17] (fun sv dv iv wr => ∃ k : Nat, k ≤ t.ks.length ∧ sv = .int .i64 ((1 + sizeL (t.ks.take k) : Nat) : Int) ∧ dv = .int .i64 ((depthL (t.ks.take k) : Nat) : Int) ∧ iv = .int .i64 (k : Int) ∧ Hid (Below W2.heap.size W2 wr)) (fun _ _ iv _ => t.ks.length - (intOf iv).toNat)
  case atStart => exact ⟨0, Nat.zero_le _, by simp [sizeL], by simp [depthL], by simp, Lib.hid (Below.refl _ _)⟩
  case round =>
    obtain ⟨k, hk, rfl, rfl, rfl, HB⟩ := hrel
    have hs1 := sizeL_take_le t.ks k
    have hd1 := depthL_take_le t.ks k
    have hst : 1 + sizeL (t.ks.take k) ≤ 30 := by have := HTK.out; omega
    have hdt : depthL (t.ks.take k) ≤ 30 := by have := HTK.out; have := HDS.out; omega
    have HB1r := Lib.hid (HB2.out.trans (HB.out.mono HB2.out.size))
    clear hs1 hd1
    by_cases hc : k < t.ks.length
    · have hki : (k : Int) < (t.ks.length : Int) := by omega
      have hc2 : k < nds.length := by have := HNL.out; omega
      obtain ⟨kg, ko, rfl, hkk⟩ : ∃ kg ko, n4 = some ⟨kg, ko, none⟩ ∧ ∀ W, Below w1.heap.size w1 W → ∀ (i : Nat) (h : i < nds.length), NodeAt W kg (ko + i * 4) nds[i] := by
        rcases HKD.out with h | h
        · rw [h] at hc; simp at hc
        · exact h
      obtain ⟨c0, c1, c2, c3⟩ := hkk wr HB1r.out k hc2
      have HVK := Lib.hid (HKV.out wr HB1r.out k hc hc2)
      have hsk : t.ks[k].size ≤ 29 := by
        have h1 := sizeL_mem (List.getElem_mem hc)
        have := HTK.out; omega
      have hdk : t.ks[k].depth ≤ 29 := by have := depth_size t.ks[k]; omega
      have HST := Lib.hid (sizeL_take t.ks k hc)
      have HDT := Lib.hid (depthL_take t.ks k hc)
      generalize t.ks[k] = x at *
      generalize sizeL (t.ks.take k) = sz at *
      generalize depthL (t.ks.take k) = dp at *
      clear hkk
      generalize nds[k] = nd at *
      obtain ⟨p1, p2, p3, p4, p5, p6⟩ := nd
      simp only at c0 c1 c2 c3
      have hba : Below wr.heap.size wr (wr.alloc (.cells #[.string p1, .string p2, .int .i64 p3, .slice p4 p5 p6] 25)) := (Below.refl _ _).alloc (Nat.le_refl _) _
      have hn4 := node_new wr ⟨p1, p2, p3, p4, p5, p6⟩
      simp only at hn4
      have C1 := Lib.hid (size_of _ _ _ _ (HVK.out.next hba) (by omega))
      have HVA := Lib.hid (HVK.out.next hba)
      simp only [Nd.val] at C1
      have HN4 := Lib.hid hn4
      have HBA := Lib.hid (HB.out.trans (hba.mono HB.out.size))
      have hz4 : wr.heap.size < (wr.alloc (.cells #[.string p1, .string p2, .int .i64 p3, .slice p4 p5 p6] 25)).heap.size := by simp
      clear hba hn4 HVK HKV HKD
      go_wp2_with fail
      refine C1.out.mono ?_
      rintro e w3 ⟨rfl, hb3⟩
      obtain ⟨y0, y1, y2, y3⟩ := HN4.out.kept (hb3.block _ hz4)
      have C2 := Lib.hid (depth_of _ _ _ _ (HVA.out.next hb3) (by omega))
      simp only [Nd.val] at C2 y0 y1 y2 y3
      have HB3 := Lib.hid (HBA.out.trans (hb3.mono HBA.out.size))
      clear hb3 HN4 HBA C1 HVA hz4
      go_wp2_with fail
      refine C2.out.mono ?_
      rintro e w4 ⟨rfl, hb4⟩
      have HB4 := Lib.hid (HB3.out.trans (hb4.mono HB3.out.size))
      clear hb4 C2 HB3
      go_wp2_with fail
      go_round
      case measure => simp [intOf]; omega
      case rel => exact ⟨k + 1, by omega, by rw [HST.out]; congr 1; omega, by rw [HDT.out]; congr 1; omega, by simp, HB4⟩
    · obtain rfl : k = t.ks.length := by omega
      rw [List.take_length] at hst hdt ⊢
      have hki : ¬ (t.ks.length : Int) < (t.ks.length : Int) := by omega
      have CA := Lib.hid (awake_any wr (as_tab HT.out (HB1.out.trans (HB1r.out.mono HB1.out.size)) (Nat.le_trans HB1.out.size HB1r.out.size)))
      have HW := Lib.hid (HB1.out.trans (HB1r.out.mono HB1.out.size))
      clear HKV HKD
      go_wp2_with fail
      refine CA.out.mono ?_
      rintro e w3 ⟨rfl, hb3⟩
      have hbr := HB.out.trans (hb3.mono HB.out.size)
      have HN3 := Lib.hid (HNN.out.kept (hbr.block _ HNN.out.lt))
      have HV3 := Lib.hid (HV.out.next hbr)
      obtain ⟨y0, y1, y2, y3⟩ := HN3.out
      have C1 := Lib.hid (size_of _ _ _ _ HV3.out (by omega))
      simp only [Nd.val] at C1 y0 y1 y2 y3
      have HW3 := Lib.hid (HW.out.trans (hb3.mono HW.out.size))
      clear hb3 hbr HW CA HV HNN
      go_wp2_with fail
      refine C1.out.mono ?_
      rintro e w4 ⟨rfl, hb4⟩
      have hse : ((t.size : Int) == 1 + ((sizeL t.ks : Nat) : Int)) = true := by rw [beq_iff_eq, HTK.out]; omega
      have HN4 := Lib.hid (HN3.out.kept (hb4.block _ HN3.out.lt))
      obtain ⟨y0, y1, y2, y3⟩ := HN4.out
      have C2 := Lib.hid (depth_of _ _ _ _ (HV3.out.next hb4) (by omega))
      simp only [Nd.val] at C2 y0 y1 y2 y3
      have HW4 := Lib.hid (HW3.out.trans (hb4.mono HW3.out.size))
      clear hb4 HW3 C1 HV3 HN3
      go_wp2_with fail
      refine C2.out.mono ?_
      rintro e w5 ⟨rfl, hb5⟩
      have hde : ((t.depth : Int) == ((depthL t.ks : Nat) : Int) + 1) = true := by rw [beq_iff_eq, HTD.out]; omega
      have HW5 := Lib.hid (HW4.out.trans (hb5.mono HW4.out.size))
      clear hb5 HW4 C2
      go_wp2_with fail
      go_ret
      exact ⟨rfl, HW5.out⟩
end Go.Proofs.YtgahamppfdhnaaaDoor
