/-
  THE WALK of the law PackCut.
-/
import Derived.Test.YtjcnlkbmigemhaaDoorCutM
import Derived.Test.YtjcnlkbmigemhaaDoorPartsW
namespace Go.Proofs.YtjcnlkbmigemhaaDoor
open Go.RowKit Go.Shelf
attribute [local go_sem] Oper.semAt_some

theorem Tryd.infoInt : (Tryd.prog.info? 3).map (fun i => (i.zero, i.size, i.bytes)) = some (some (.int .i64 0), 1, 8) := by kernel_rfl
/-- The Writer stands where a row of ints grows. -/
theorem Wr.grownI {w w' : World} {b B g : Nat} {l : List UInt8} (h : Wr w b B l) (hk : ∃ cs fz, w.heap[g]? = some (.cells cs 3 fz)) (hb : b ≠ g) (he : ∀ k, k < w.heap.size → k ≠ g → w'.heap[k]? = w.heap[k]?) (hs : w.heap.size ≤ w'.heap.size) : Wr w' b B l := by
  obtain ⟨v, hc, hf, hown, hbB, hB⟩ := h
  have hbe := he b (by omega) hb
  refine ⟨v, (World.cell?_of_block hbe).trans hc, (World.frozen?_of_block hbe).trans hf, ?_, hbB, by omega⟩
  refine ⟨hown.1, ?_⟩
  rcases hown.2 with h2 | ⟨g', cap, cur, h1, hB', hgg, hrest⟩
  · exact Or.inl h2
  · refine Or.inr ⟨g', cap, cur, h1, hB', ?_, hrest⟩
    rw [he g' (heap_lt hgg) ?_]
    · exact hgg
    · rintro rfl
      obtain ⟨cs, fz, hcs⟩ := hk
      rw [hcs] at hgg
      cases hgg
/-- What an int put behind a row of ints leaves. -/
theorem counted {w0 w3 w4 : World} {b g3 g3' n c3 : Nat} {xs : List Value} {l : List UInt8} {o : Obj} (hO : w3.ownsRow (b + 1) 3 1 (.slice (some ⟨g3, 0, none⟩) n c3) n xs) (hW : Wr w3 b (b + 1) l) (hB : Below b w0 w3)
    (hgrow : (w3.alloc o).grownBy w4 (some g3)) (hat : some g3' = some g3 ∨ some g3' = some (w3.heap.size + 1)) :
    Wr w4 b (b + 1) l ∧ Below b w0 w4 ∧ ∀ k, k < w3.heap.size → k ≠ g3 → w4.heap[k]? = w3.heap[k]? ∧ g3' ≠ k := by
  obtain ⟨hbg, cs, fz, hk⟩ := ownsRow_kind28 hO
  have hg2 := heap_lt hk
  have hsz := hgrow.size
  have hs : (w3.alloc o).heap.size = w3.heap.size + 1 := by simp
  have hold (k : Nat) (h1 : k < w3.heap.size) (h2 : k ≠ g3) : w4.heap[k]? = w3.heap[k]? := by
    rw [hgrow.block k (by omega) (by simpa using h2), heap_old h1]
  refine ⟨hW.grownI ⟨cs, fz, hk⟩ (by omega) hold (by omega), ?_, fun k h1 h2 => ⟨hold k h1 h2, ?_⟩⟩
  · have := hW.le
    exact (hB.alloc (by omega) _).grown hgrow (by omega) (fun k hk => by simp at hk; omega)
  · rcases hat with h | h
    · simp at h; omega
    · simp at h; omega
/-- A row of ints stays where a thing is written. -/
theorem ints_put {w2 w3 : World} {b g n c : Nat} {xs : List Value} (hF : WFr b (b + 1) w2 w3) (hO : w2.ownsRow (b + 1) 3 1 (.slice (some ⟨g, 0, none⟩) n c) n xs) : w3.heap[g]? = w2.heap[g]? := by
  obtain ⟨h1, cs, fz, hcs⟩ := ownsRow_kind28 hO
  rw [hcs]
  exact hF.others g _ hcs (by intro h; injection h; omega) (fun c fz h => by cases h)
def endsV (ins : List Th) : List Value := (List.range ins.length).map fun k => Value.int .i64 (posM ins (k + 1))
theorem endsV_len (ins : List Th) : (endsV ins).length = ins.length := by simp [endsV]
theorem endsV_snoc (ins : List Th) (t : Th) : endsV (ins ++ [t]) = endsV ins ++ [.int .i64 (encs (ins ++ [t])).length] := by
  unfold endsV
  rw [List.length_append, List.length_singleton, List.range_succ, List.map_append]
  have e1 : posM (ins ++ [t]) (ins.length + 1) = (encs (ins ++ [t])).length := by
    unfold posM; rw [List.take_of_length_le (by simp)]
  have e2 : (List.range ins.length).map (fun k => Value.int .i64 (posM (ins ++ [t]) (k + 1))) = (List.range ins.length).map fun k => Value.int .i64 (posM ins (k + 1)) := by
    refine List.map_congr_left fun k hk => ?_
    have hk := List.mem_range.1 hk
    unfold posM
    rw [List.take_append_of_le_length (by omega)]
  rw [e2, List.map_singleton, e1]
theorem endsV_get (ins : List Th) (k : Nat) (h : k < ins.length) : (endsV ins)[k]? = some (.int .i64 (posM ins (k + 1))) := by
  unfold endsV
  simp [h]

set_option maxHeartbeats 8000000 in
set_option maxRecDepth 100000 in
theorem cut_walk (p : Option Addr) (cap : Nat) (l : List Th) (cut : Int) (w : World) (hA : ThAt w p l) (hl : l.length ≤ maxLen) (hok : ∀ t ∈ l, t.ok) (hcu0 : -9223372036854775808 ≤ cut) (hcu1 : cut ≤ 9223372036854775807)
    (htab : Lib.TabBelow Tryd.prog w.heap.size w "internal/strconv.uint64pow10" .u64 Lib.pow10Tab) :
    Calls Tryd.prog 4 #[.slice p l.length cap, .int .i64 cut] w fun e w' => e = .returned (.bool true) ∧ Below w.heap.size w w' := by
  obtain ⟨i0, hi, hz0, hz1, hz2⟩ := info_parts Tryd.infoTh
  obtain ⟨i1, hj, hy0, hy1, hy2⟩ := info_parts Tryd.infoInt
  refine (callsIn_wide (n := 6)).1 ?_
  refine callsIn_of_wp_marks Tryd.func4 rfl trivial ?_ rfl
  simp only [Tryd.ntmps4, List.size_toArray, List.length_cons, List.length_nil, Nat.reduceAdd, Nat.reduceSub, Array.replicate_succ, Array.replicate_zero, List.push_toArray, List.append_toArray, List.nil_append, List.cons_append]
  have t1 : Fence.wide.fn 7 := trivial
  have t2 : Fence.wide.fn 12 := trivial
  have t3 : Fence.wide.fn 10 := trivial
  have t4 : Fence.wide.fn 13 := trivial
  have t5 : Fence.wide.fn 14 := trivial
  have t6 : Fence.wide.fn 15 := trivial
  have t7 : Fence.wide.fn 16 := trivial
  have t8 : Fence.wide.fn 17 := trivial
  have t9 : Fence.wide.fn 18 := trivial
  have hle := few_length l 20
  have HS := Lib.hid (few_small (n := 20) hok)
  have HTAB := Lib.hid htab
  have HFEW := Lib.hid (fun w (h : ThAt w p l) => few_any p cap l 20 w h hl (by omega) (fun t ht => (hok t ht).2.2))
  have HA := Lib.hid hA
  generalize fewL l 20 = fl at *
  clear htab hA hl hok
  gi_wp2_with fail
  -- THE BODY
  obtain ⟨b, hb⟩ : ∃ b, b = w.heap.size + 1 := ⟨_, rfl⟩
  obtain ⟨w0, hw0⟩ : ∃ w0, w0 = w.alloc (.cells #[.bool false] 4) := ⟨_, rfl⟩
  have hzb : w0.heap.size = b := by rw [hw0, hb]; simp
  have hr0 : w0.cell? ⟨w.heap.size, 0, none⟩ = some (.bool false) := by rw [hw0]; simp [go_sem]
  have fr0 : w0.frozen? ⟨w.heap.size, 0, none⟩ = false := by rw [hw0]; simp [go_sem]
  have hbw : Below w.heap.size w w0 := by rw [hw0]; exact (Below.refl _ _).alloc (Nat.le_refl _) _
  obtain ⟨W3, hW3⟩ : ∃ W3, W3 = ((w0.alloc (.cells #[.slice none 0 0] 35)).alloc (.cells #[] 39)).alloc (.cells #[] 3) := ⟨_, rfl⟩
  have hb3 : Below b w0 W3 := by rw [hW3, ← hzb]; exact (((Below.refl _ _).alloc (Nat.le_refl _) _).alloc (by simp) _).alloc (by simp; omega) _
  have hz3 : W3.heap.size = b + 3 := by rw [hW3]; simp; omega
  have hwr3 : Wr W3 b (b + 1) [] := by
    rw [hW3, ← hzb]
    exact ((Wr.new w0).kept ((Below.refl _ _).alloc (Nat.le_refl _) _)).kept ((Below.refl _ _).alloc (Nat.le_refl _) _)
  have hT3 : W3.ownsRow (b + 1) 39 3 (.slice (some ⟨b + 1, 0, none⟩) 0 0) 0 [] := by
    have h := World.ownsRow_made (base := b + 1) (e := 39) (size := 3) (w0.alloc (.cells #[.slice none 0 0] 35)) #[] 0 (by simp; omega) (by decide) rfl
    rw [hW3, ← hzb]
    refine World.ownsRow.alloc ?_ _
    rw [← hzb] at h
    simpa using h
  have hI3 : W3.ownsRow (b + 1) 3 1 (.slice (some ⟨b + 1 + 1, 0, none⟩) 0 0) 0 [] := by
    have h := World.ownsRow_made (base := b + 1) (e := 3) (size := 1) ((w0.alloc (.cells #[.slice none 0 0] 35)).alloc (.cells #[] 39)) #[] 0 (by simp; omega) (by decide) rfl
    rw [hW3, ← hzb]
    rw [← hzb] at h
    simpa using h
  rw [← hw0, ← hW3]
  have HT0 : Hid (Lib.TabBelow Tryd.prog b w0 "internal/strconv.uint64pow10" .u64 Lib.pow10Tab) := Lib.hid (hzb ▸ tab_at HTAB.out hbw hbw.size)
  have HBW := Lib.hid hbw
  clear hW3
  subst hb
  refine (callsIn_wide.2 (HFEW.out W3 (HA.out.below (hbw.trans (hb3.mono (by omega)))))).mono ?_
  rintro e w1 ⟨g, c, rfl, hrow, hb1⟩
  have hw1 := hwr3.kept hb1
  have HB1 := Lib.hid (hb3.trans (hb1.mono (by omega)))
  have HR := Lib.hid hrow
  have hge : (w.heap.size + 1) + 3 ≤ g := by have := hrow.ge; omega
  have HT1 := Lib.hid (ownsRow_heap hT3 (w' := w1) (hb1.block _ (by omega)))
  have HI1 := Lib.hid (ownsRow_heap hI3 (w' := w1) (hb1.block _ (by omega)))
  clear HFEW hwr3 hb3 hb1 hrow hT3 hI3 hw0 hbw
  gi_wp2_with fail
  gi_loopw [6, 7, 25] (fun inv env iv wr => ∃ (k : Nat) (ins : List Th) (g2 c2 g3 c3 : Nat), k ≤ fl.length ∧ ins.length ≤ k ∧ iv = .int .i64 k ∧ inv = .slice (some ⟨g2, 0, none⟩) ins.length c2 ∧ env = .slice (some ⟨g3, 0, none⟩) ins.length c3 ∧ g2 ≠ g ∧ g3 ≠ g ∧ g3 ≠ g2 ∧ Hid (Plain ins) ∧
      Hid (wr.ownsRow ((w.heap.size + 1) + 1) 39 3 (.slice (some ⟨g2, 0, none⟩) ins.length c2) ins.length (thRow ins)) ∧ Hid (wr.ownsRow ((w.heap.size + 1) + 1) 3 1 (.slice (some ⟨g3, 0, none⟩) ins.length c3) ins.length (endsV ins)) ∧ Hid (Wr wr (w.heap.size + 1) ((w.heap.size + 1) + 1) (encs ins)) ∧ Hid (Below (w.heap.size + 1) w0 wr) ∧ Hid (wr.heap[g]? = w1.heap[g]?)) (fun _ _ iv _ => fl.length - (intOf iv).toNat)
  case atStart => exact ⟨0, [], (w.heap.size + 1) + 1, 0, (w.heap.size + 1) + 1 + 1, 0, by omega, by simp, rfl, rfl, rfl, by omega, by omega, by omega, Lib.hid (fun t h => absurd h (by simp)), HT1, HI1, Lib.hid hw1, HB1, Lib.hid rfl⟩
  case round =>
    obtain ⟨k, ins, g2, c2, g3, c3, hk, hil, rfl, rfl, rfl, hne, hneg, hne3, HPl, HO, HI, HW, HB, HX⟩ := hrel
    by_cases hc : k < fl.length
    · obtain ⟨hc0, hc1, hc2⟩ := (HR.out.kept HX.out).cells k hc
      have hsm := HS.out _ (List.getElem_mem hc)
      generalize fl[k] = t at hc0 hc1 hc2 hsm
      obtain ⟨kt, nt, st⟩ := t
      simp only at hc0 hc1 hc2
      obtain ⟨hn0, hn1, hsz⟩ := hsm
      simp only at hn0 hn1 hsz
      have hglt : g < wr.heap.size := by
        obtain ⟨cs, fz, h⟩ := (HR.out.kept HX.out).kind
        exact heap_lt h
      have hg3lt : g3 < wr.heap.size := heap_lt (ownsRow_kind28 HI.out).2.choose_spec.choose_spec
      have hel : (encs ins).length ≤ 300 * ins.length := encs_len (fun t ht => (HPl.out t ht).2)
      rcases (by omega : (kt ≠ 1 ∧ kt ≠ 2) ∨ kt = 1 ∨ kt = 2) with ⟨hlo, hhi⟩ | hkeep
      · have b1 : (kt == 1) = false := by simpa using hlo
        have b2 : (kt == 2) = false := by simpa using hhi
        have b3 : decide (kt = 1) = false := by simpa using hlo
        have b4 : decide (kt = 2) = false := by simpa using hhi
        gi_wp2_with fail
        refine ⟨?_, ?_⟩
        · exact ⟨k + 1, ins, g2, c2, g3, c3, by omega, by omega, by go_num, rfl, rfl, hne, hneg, hne3, HPl, Lib.hid (HO.out.alloc _), Lib.hid (HI.out.alloc _), Lib.hid (HW.out.kept ((Below.refl _ _).alloc (Nat.le_refl _) _)), Lib.hid (HB.out.alloc (by have := HW.out.le; omega) _), Lib.hid ((heap_old hglt _).trans HX.out)⟩
        · simp [intOf]; omega
      · rcases hkeep with rfl | rfl
        · have HGn := Lib.hid (HPl.out.snoc (t := ⟨1, nt, st⟩) (Or.inl rfl) ⟨hn0, hn1, hsz⟩)
          gi_wp2_with (gi_at_builtin; refine wpListIn_append_own_at _ rfl (.tmp 37) (.tmp 39) 32 rfl ((w.heap.size + 1) + 1) 39 i0 (.agg #[.int .i64 0, .int .i64 0, .string ⟨#[]⟩]) 3 32 Tryd.underlying32 hi hz0 hz1 hz2 rfl (by decide) (.slice (some ⟨g2, 0, none⟩) ins.length c2) ins.length (thRow ins) rfl ((HO.out.alloc _).alloc _) ⟨wr.heap.size + 1, 0, none⟩ 1 1 (Th.vals ⟨1, nt, st⟩) (by simp [go_sem]) rfl ?c1 ?c2 ?c3 ?c4 ?c5 ?_)
          case c1 => exact th_new _ ⟨1, nt, st⟩ (by simp)
          case c2 => simp [Th.vals, Value.oneCell']
          case c3 => unfold maxLen; omega
          case c4 => omega
          case c5 => have := HW.out.le; first | omega | (simp; omega)
          intro v' w2 hown1 hgrow _ hat
          obtain ⟨g', cap', rfl⟩ := ownsRow_succ hown1
          obtain ⟨hW2, hB2, hX2, hne', q0, q1, q2⟩ := gathered ⟨1, nt, st⟩ HO.out HW.out HB.out hglt hne hgrow (g' := g') hat
          obtain ⟨_, _, hY2, hne3', _, _, _⟩ := gathered ⟨1, nt, st⟩ HO.out HW.out HB.out hg3lt (Ne.symm hne3) hgrow (g' := g') hat
          have HI2 := Lib.hid (ownsRow_heap HI.out hY2)
          have PUT := Lib.hid (put_any (w.heap.size + 1) ((w.heap.size + 1) + 1) (encs ins) ⟨1, nt, st⟩ w2 hW2 (by omega) hsz hn0 hn1 (HT0.out.on hB2))
          have HO2 := Lib.hid hown1
          have HX2 := Lib.hid hX2
          have HB2 := Lib.hid hB2
          clear hown1 hgrow hW2 hX2 hB2 HO HW HB HI hY2
          gi_wp2_with fail
          --STOP1
          refine (callsIn_wide.2 PUT.out).mono ?_
          rintro e w3 ⟨rfl, hw3, hf3⟩
          obtain ⟨hO3, hX3⟩ := after_put hf3 HO2.out (g := g) (by rw [HX2.out, HX.out]; exact HR.out.kind) (by omega)
          have hI3 := ownsRow_heap HI2.out (ints_put hf3 HI2.out)
          have HW3 := Lib.hid hw3
          have HO3 := Lib.hid hO3
          have HI3 := Lib.hid hI3
          have HX3 := Lib.hid (hX3.trans (HX2.out.trans HX.out))
          have HB3 := Lib.hid (HB2.out.trans (hf3.below (by omega)))
          clear PUT HO2 hX3 HX2 HB2 hO3 hf3 hw3 HX HI2 hI3
          --STOP3
          gi_wp2_with fail
          --STOP4
          refine (callsIn_wide.2 (wbytes_any _ _ _ _ HW3.out)).mono ?_
          rintro e w3' ⟨rfl, rfl⟩
          --STOP5
          have hbs : (⟨(encs ins ++ Th.enc ⟨1, nt, st⟩).toArray⟩ : ByteArray).size = (encs (ins ++ [⟨1, nt, st⟩])).length := by rw [encs_snoc1]; rfl
          have hbl : (encs (ins ++ [⟨1, nt, st⟩])).length ≤ 6300 := by
            have := encs_len (l := ins ++ [⟨1, nt, st⟩]) (fun t ht => (HGn.out t ht).2)
            simp only [List.length_append, List.length_singleton] at this
            omega
          have HE := Lib.hid (endsV_snoc ins ⟨1, nt, st⟩)
          generalize (⟨(encs ins ++ Th.enc ⟨1, nt, st⟩).toArray⟩ : ByteArray) = bs at hbs
          have HBS := Lib.hid hbs
          have hbs2 : bs.size ≤ 6300 := by omega
          clear hbs hbl
          --STOP2
          gi_wp2_with (gi_at_builtin; refine wpListIn_append_own_at _ rfl (.tmp 43) (.tmp 46) 36 rfl ((w.heap.size + 1) + 1) 3 i1 (.int .i64 0) 1 8 Tryd.underlying36 hj hy0 hy1 hy2 rfl (by decide) (.slice (some ⟨g3, 0, none⟩) ins.length c3) ins.length (endsV ins) rfl (HI3.out.alloc _) ⟨w3.heap.size, 0, none⟩ 1 1 [.int .i64 bs.size] rfl rfl ?d1 ?d2 ?d3 ?d4 ?d5 ?_)
          case d1 => exact cell_one_new _ _ _
          case d2 => simp [Value.oneCell']
          case d3 => unfold maxLen; omega
          case d4 => have := HW3.out.le; simp; omega
          case d5 => have := HW3.out.le; simp; omega
          intro v' w4 hown4 hgrow _ hat
          obtain ⟨g3', cap3', rfl⟩ := ownsRow_succ hown4
          obtain ⟨hW4, hB4, hK4⟩ := counted HI3.out HW3.out HB3.out hgrow hat
          have hgt : g' < w3.heap.size := heap_lt (ownsRow_kind28 HO3.out).2.choose_spec.choose_spec
          obtain ⟨x1, x2⟩ := hK4 g' hgt (by omega)
          obtain ⟨x3, x4⟩ := hK4 g (by obtain ⟨cs, fz, h⟩ := (HR.out.kept HX3.out).kind; exact heap_lt h) (by omega)
          have HW4 := Lib.hid hW4
          have HB4 := Lib.hid hB4
          have HO4 := Lib.hid (ownsRow_heap HO3.out x1)
          have HX4 := Lib.hid (x3.trans HX3.out)
          have HI4 : Hid (w4.ownsRow ((w.heap.size + 1) + 1) 3 1 (.slice (some ⟨g3', 0, none⟩) (ins.length + 1) cap3') (ins.length + 1) (endsV (ins ++ [⟨1, nt, st⟩]))) := Lib.hid (by rw [HE.out, ← HBS.out]; exact hown4)
          clear hown4 hgrow hat hW4 hB4 hK4 x1 x3 HW3 HB3 HO3 HX3 HI3 HE HBS
          gi_wp2_with fail
          refine ⟨?_, ?_⟩
          · exact ⟨k + 1, ins ++ [⟨1, nt, st⟩], g', cap', g3', cap3', by omega, by simp; omega, by go_num, by simp, by simp, hne', x4, x2, HGn, Lib.hid (by rw [thRow_snoc, List.length_append]; exact HO4.out), Lib.hid (by rw [List.length_append]; exact HI4.out), Lib.hid (by rw [encs_snoc1]; exact HW4.out), HB4, HX4⟩
          · simp [intOf]; omega
        · have HGn := Lib.hid (HPl.out.snoc (t := ⟨2, nt, st⟩) (Or.inr rfl) ⟨hn0, hn1, hsz⟩)
          gi_wp2_with (gi_at_builtin; refine wpListIn_append_own_at _ rfl (.tmp 37) (.tmp 39) 32 rfl ((w.heap.size + 1) + 1) 39 i0 (.agg #[.int .i64 0, .int .i64 0, .string ⟨#[]⟩]) 3 32 Tryd.underlying32 hi hz0 hz1 hz2 rfl (by decide) (.slice (some ⟨g2, 0, none⟩) ins.length c2) ins.length (thRow ins) rfl ((HO.out.alloc _).alloc _) ⟨wr.heap.size + 1, 0, none⟩ 1 1 (Th.vals ⟨2, nt, st⟩) (by simp [go_sem]) rfl ?c1 ?c2 ?c3 ?c4 ?c5 ?_)
          case c1 => exact th_new _ ⟨2, nt, st⟩ (by simp)
          case c2 => simp [Th.vals, Value.oneCell']
          case c3 => unfold maxLen; omega
          case c4 => omega
          case c5 => have := HW.out.le; first | omega | (simp; omega)
          intro v' w2 hown1 hgrow _ hat
          obtain ⟨g', cap', rfl⟩ := ownsRow_succ hown1
          obtain ⟨hW2, hB2, hX2, hne', q0, q1, q2⟩ := gathered ⟨2, nt, st⟩ HO.out HW.out HB.out hglt hne hgrow (g' := g') hat
          obtain ⟨_, _, hY2, hne3', _, _, _⟩ := gathered ⟨2, nt, st⟩ HO.out HW.out HB.out hg3lt (Ne.symm hne3) hgrow (g' := g') hat
          have HI2 := Lib.hid (ownsRow_heap HI.out hY2)
          have PUT := Lib.hid (put_any (w.heap.size + 1) ((w.heap.size + 1) + 1) (encs ins) ⟨2, nt, st⟩ w2 hW2 (by omega) hsz hn0 hn1 (HT0.out.on hB2))
          have HO2 := Lib.hid hown1
          have HX2 := Lib.hid hX2
          have HB2 := Lib.hid hB2
          clear hown1 hgrow hW2 hX2 hB2 HO HW HB HI hY2
          gi_wp2_with fail
          --STOP1
          refine (callsIn_wide.2 PUT.out).mono ?_
          rintro e w3 ⟨rfl, hw3, hf3⟩
          obtain ⟨hO3, hX3⟩ := after_put hf3 HO2.out (g := g) (by rw [HX2.out, HX.out]; exact HR.out.kind) (by omega)
          have hI3 := ownsRow_heap HI2.out (ints_put hf3 HI2.out)
          have HW3 := Lib.hid hw3
          have HO3 := Lib.hid hO3
          have HI3 := Lib.hid hI3
          have HX3 := Lib.hid (hX3.trans (HX2.out.trans HX.out))
          have HB3 := Lib.hid (HB2.out.trans (hf3.below (by omega)))
          clear PUT HO2 hX3 HX2 HB2 hO3 hf3 hw3 HX HI2 hI3
          --STOP3
          gi_wp2_with fail
          --STOP4
          refine (callsIn_wide.2 (wbytes_any _ _ _ _ HW3.out)).mono ?_
          rintro e w3' ⟨rfl, rfl⟩
          --STOP5
          have hbs : (⟨(encs ins ++ Th.enc ⟨2, nt, st⟩).toArray⟩ : ByteArray).size = (encs (ins ++ [⟨2, nt, st⟩])).length := by rw [encs_snoc1]; rfl
          have hbl : (encs (ins ++ [⟨2, nt, st⟩])).length ≤ 6300 := by
            have := encs_len (l := ins ++ [⟨2, nt, st⟩]) (fun t ht => (HGn.out t ht).2)
            simp only [List.length_append, List.length_singleton] at this
            omega
          have HE := Lib.hid (endsV_snoc ins ⟨2, nt, st⟩)
          generalize (⟨(encs ins ++ Th.enc ⟨2, nt, st⟩).toArray⟩ : ByteArray) = bs at hbs
          have HBS := Lib.hid hbs
          have hbs2 : bs.size ≤ 6300 := by omega
          clear hbs hbl
          --STOP2
          gi_wp2_with (gi_at_builtin; refine wpListIn_append_own_at _ rfl (.tmp 43) (.tmp 46) 36 rfl ((w.heap.size + 1) + 1) 3 i1 (.int .i64 0) 1 8 Tryd.underlying36 hj hy0 hy1 hy2 rfl (by decide) (.slice (some ⟨g3, 0, none⟩) ins.length c3) ins.length (endsV ins) rfl (HI3.out.alloc _) ⟨w3.heap.size, 0, none⟩ 1 1 [.int .i64 bs.size] rfl rfl ?d1 ?d2 ?d3 ?d4 ?d5 ?_)
          case d1 => exact cell_one_new _ _ _
          case d2 => simp [Value.oneCell']
          case d3 => unfold maxLen; omega
          case d4 => have := HW3.out.le; simp; omega
          case d5 => have := HW3.out.le; simp; omega
          intro v' w4 hown4 hgrow _ hat
          obtain ⟨g3', cap3', rfl⟩ := ownsRow_succ hown4
          obtain ⟨hW4, hB4, hK4⟩ := counted HI3.out HW3.out HB3.out hgrow hat
          have hgt : g' < w3.heap.size := heap_lt (ownsRow_kind28 HO3.out).2.choose_spec.choose_spec
          obtain ⟨x1, x2⟩ := hK4 g' hgt (by omega)
          obtain ⟨x3, x4⟩ := hK4 g (by obtain ⟨cs, fz, h⟩ := (HR.out.kept HX3.out).kind; exact heap_lt h) (by omega)
          have HW4 := Lib.hid hW4
          have HB4 := Lib.hid hB4
          have HO4 := Lib.hid (ownsRow_heap HO3.out x1)
          have HX4 := Lib.hid (x3.trans HX3.out)
          have HI4 : Hid (w4.ownsRow ((w.heap.size + 1) + 1) 3 1 (.slice (some ⟨g3', 0, none⟩) (ins.length + 1) cap3') (ins.length + 1) (endsV (ins ++ [⟨2, nt, st⟩]))) := Lib.hid (by rw [HE.out, ← HBS.out]; exact hown4)
          clear hown4 hgrow hat hW4 hB4 hK4 x1 x3 HW3 HB3 HO3 HX3 HI3 HE HBS
          gi_wp2_with fail
          refine ⟨?_, ?_⟩
          · exact ⟨k + 1, ins ++ [⟨2, nt, st⟩], g', cap', g3', cap3', by omega, by simp; omega, by go_num, by simp, by simp, hne', x4, x2, HGn, Lib.hid (by rw [thRow_snoc, List.length_append]; exact HO4.out), Lib.hid (by rw [List.length_append]; exact HI4.out), Lib.hid (by rw [encs_snoc1]; exact HW4.out), HB4, HX4⟩
          · simp [intOf]; omega
    · obtain rfl : k = fl.length := by omega
      have hel : (encs ins).length ≤ 300 * ins.length := encs_len (fun t ht => (HPl.out t ht).2)
      clear HS HR HT1 HI1 hw1 HX hne hneg HA
      gi_wp2_with fail
      refine (callsIn_wide.2 (wbytes_any _ _ _ _ HW.out)).mono ?_
      rintro e w6 ⟨rfl, h6⟩
      have h6 := h6.symm
      subst h6
      have HSS := Lib.hid (show (⟨(encs ins).toArray⟩ : ByteArray).data.toList = encs ins by simp)
      have hsz : (⟨(encs ins).toArray⟩ : ByteArray).size ≤ 6000 := by
        have e : (⟨(encs ins).toArray⟩ : ByteArray).size = (encs ins).length := by simp [ByteArray.size]
        rw [e]; omega
      generalize (⟨(encs ins).toArray⟩ : ByteArray) = S at *
      have hr6 := (HB.out.cell (p := ⟨w.heap.size, 0, none⟩) (by show w.heap.size < w.heap.size + 1; omega)).trans hr0
      have fr6 := (HB.out.frozen (p := ⟨w.heap.size, 0, none⟩) (by show w.heap.size < w.heap.size + 1; omega)).trans fr0
      have HB6 := Lib.hid (HBW.out.trans (HB.out.mono (by omega)))
      have hz6 : w.heap.size < w6.heap.size := World.block_lt_of_cell? _ _ hr6
      have hil20 : ins.length ≤ 20 := by omega
      clear hr0 fr0 HW HB HBW HT0 hel
      have early : ∀ w9 : World, Below w6.heap.size w6 w9 → Below w.heap.size w (w9.setCell ⟨w.heap.size, 0, none⟩ (.bool true)) ∧ (w9.setCell ⟨w.heap.size, 0, none⟩ (.bool true)).cell? ⟨w.heap.size, 0, none⟩ = some (.bool true) ∧ w9.cell? ⟨w.heap.size, 0, none⟩ = some (.bool false) ∧ w9.frozen? ⟨w.heap.size, 0, none⟩ = false := fun w9 hb9 => by
        have c9 := (hb9.cell (p := ⟨w.heap.size, 0, none⟩) hz6).trans hr6
        exact ⟨(HB6.out.trans (hb9.mono HB6.out.size)).setCell (p := ⟨w.heap.size, 0, none⟩) (Nat.le_refl _) _, World.cell?_setCell_same' _ _ _ (by rw [c9]; rfl), c9, (hb9.frozen (p := ⟨w.heap.size, 0, none⟩) hz6).trans fr6⟩
      have EARLY := Lib.hid early
      clear early
      by_cases hneg : cut < 0
      · have d1 : decide (cut < 0) = true := by simpa using hneg
        gi_wp2_with fail
        refine (callsIn_wide.2 (awake_any _ (tab_at HTAB.out HB6.out HB6.out.size))).mono ?_
        rintro e w9 ⟨rfl, hb9⟩
        obtain ⟨e1, e2, e3, e4⟩ := EARLY.out w9 hb9
        have E1 := Lib.hid e1
        clear hb9 e1
        gi_wp2
        refine ⟨.bool true, ?_, rfl, E1.out⟩
        simp [results, Tryd.results4, go_sem, e2]
      · obtain ⟨c, rfl⟩ : ∃ c : Nat, cut = c := ⟨cut.toNat, by omega⟩
        have d1 : decide ((c : Int) < 0) = false := by simp
        by_cases hcz : S.size ≤ c
        · gi_wp2_with fail
          refine (callsIn_wide.2 (awake_any _ (tab_at HTAB.out HB6.out HB6.out.size))).mono ?_
          rintro e w9 ⟨rfl, hb9⟩
          obtain ⟨e1, e2, e3, e4⟩ := EARLY.out w9 hb9
          have E1 := Lib.hid e1
          clear hb9 e1
          gi_wp2
          refine ⟨.bool true, ?_, rfl, E1.out⟩
          simp [results, Tryd.results4, go_sem, e2]
        · have HCS := Lib.hid (cut_is HPl.out (by omega) HSS.out (by omega : c < S.size))
          have hg3lt : g3 < w6.heap.size := heap_lt (ownsRow_kind28 HI.out).2.choose_spec.choose_spec
          have hg2lt : g2 < w6.heap.size := heap_lt (ownsRow_kind28 HO.out).2.choose_spec.choose_spec
          have hg2b := (ownsRow_kind28 HO.out).1
          have HEV := Lib.hid (fun (k : Nat) (h : k < ins.length) => (HI.out.cellAt k (by omega)))
          clear hne3 HI EARLY HSS
          --STOP1
          gi_wp2_with fail
          gi_loopw [61] (fun iv wy => ∃ k : Nat, k ≤ ins.length ∧ iv = .int .i64 k ∧ wy.cell? ⟨w6.heap.size, 0, none⟩ = some (.int .i64 (wh ins c k)) ∧ wy.frozen? ⟨w6.heap.size, 0, none⟩ = false ∧ Hid (Below w6.heap.size w6 wy)) (fun iv _ => ins.length - (intOf iv).toNat)
          case atStart => exact ⟨0, by omega, rfl, by simp [go_sem, wh], by simp [go_sem], Lib.hid ((Below.refl _ _).alloc (Nat.le_refl _) _)⟩
          case round =>
            obtain ⟨k, hk, rfl, hw, fw, HBy⟩ := hrel
            by_cases hck : k < ins.length
            · have hce : wr.cell? ⟨g3, k, none⟩ = some (.int .i64 (posM ins (k + 1))) := (HBy.out.cell (p := ⟨g3, k, none⟩) hg3lt).trans (by rw [HEV.out k hck]; exact by simp [endsV, hck])
              have hwl := wh_le ins c k
              by_cases hle : posM ins (k + 1) ≤ c
              · have HWH := Lib.hid (show wh ins c (k + 1) = wh ins c k + 1 by rw [wh, if_pos hle])
                have p1 : decide ((posM ins (k + 1) : Int) ≤ (c : Int)) = true := by simp; omega
                generalize posM ins (k + 1) = e at *
                generalize wh ins c k = v at *
                gi_wp2_with fail
                refine ⟨?_, ?_⟩
                · exact ⟨k + 1, by omega, by go_num, by rw [HWH.out]; exact World.cell?_setCell_same' _ _ _ (by rw [hw]; rfl), by rw [World.frozen?_setCell]; exact fw, Lib.hid (HBy.out.setCell (p := ⟨w6.heap.size, 0, none⟩) (Nat.le_refl _) _)⟩
                · simp [intOf]; omega
              · have HWH := Lib.hid (show wh ins c (k + 1) = wh ins c k by rw [wh, if_neg hle])
                have p1 : decide ((posM ins (k + 1) : Int) ≤ (c : Int)) = false := by simp; omega
                generalize posM ins (k + 1) = e at *
                generalize wh ins c k = v at *
                gi_wp2_with fail
                refine ⟨?_, ?_⟩
                · exact ⟨k + 1, by omega, by go_num, by rw [HWH.out]; exact hw, fw, HBy⟩
                · simp [intOf]; omega
            · obtain rfl : k = ins.length := by omega
              obtain ⟨m, hm⟩ : ∃ m, m = wh ins c ins.length := ⟨_, rfl⟩
              rw [← hm] at hw HCS
              have hmle : m ≤ 20 := by have := wh_le ins c ins.length; omega
              have HX6 := Lib.hid (HBy.out.block g2 hg2lt)
              have HO7 := Lib.hid (ownsRow_heap HO.out (HBy.out.block g2 hg2lt))
              have HB7 := Lib.hid (HB6.out.trans (HBy.out.mono HB6.out.size))
              have hr7 := (HBy.out.cell (p := ⟨w.heap.size, 0, none⟩) hz6).trans hr6
              have fr7 := (HBy.out.frozen (p := ⟨w.heap.size, 0, none⟩) hz6).trans fr6
              have hwlt : w6.heap.size < wr.heap.size := World.block_lt_of_cell? _ _ hw
              have hcs : c ≤ S.size := by omega
              clear hm HEV hr6 fr6 HO HB6 HBy hg3lt
              --STOP2
              gi_wp2_with fail
              obtain ⟨sc, hsc⟩ : ∃ sc, sc = S.extract 0 c := ⟨_, rfl⟩
              rw [← hsc] at HCS ⊢
              have HSC := Lib.hid hsc
              clear hsc
              have HZ := Lib.hid HCS.out.small
              obtain ⟨N, hN⟩ : ∃ N, N = wr.heap.size := ⟨_, rfl⟩
              obtain ⟨W8, hW8⟩ : ∃ W8, W8 = wr.alloc (.cells #[.int .i64 0] 3) := ⟨_, rfl⟩
              have hb8 : Below wr.heap.size wr W8 := by rw [hW8]; exact (Below.refl _ _).alloc (Nat.le_refl _) _
              have hz8 : W8.heap.size = wr.heap.size + 1 := by rw [hW8]; simp
              have cn8 : W8.cell? ⟨wr.heap.size, 0, none⟩ = some (.int .i64 0) := by rw [hW8]; simp [go_sem]
              have fn8 : W8.frozen? ⟨wr.heap.size, 0, none⟩ = false := by rw [hW8]; simp [go_sem]
              rw [← hW8]
              clear hW8 hN N
              refine (callsIn_wide.2 (things_call sc W8)).mono ?_
              rintro e w9 ⟨bs, rfl, hbs0, hbs1, hb9⟩
              have hb89 : Below wr.heap.size wr w9 := hb8.trans (hb9.mono (by omega))
              have cn9 := (hb9.cell (p := ⟨wr.heap.size, 0, none⟩) (by show wr.heap.size < _; omega)).trans cn8
              have fn9 := (hb9.frozen (p := ⟨wr.heap.size, 0, none⟩) (by show wr.heap.size < _; omega)).trans fn8
              have hr9 := (hb89.cell (p := ⟨w.heap.size, 0, none⟩) (by show w.heap.size < _; omega)).trans hr7
              have fr9 := (hb89.frozen (p := ⟨w.heap.size, 0, none⟩) (by show w.heap.size < _; omega)).trans fr7
              have cw9 := (hb89.cell (p := ⟨w6.heap.size, 0, none⟩) hwlt).trans hw
              have HB9 := Lib.hid (HB7.out.trans (hb89.mono HB7.out.size))
              have HO9 := Lib.hid (ownsRow_heap HO7.out (hb89.block g2 (by omega)))
              have hz9 : W8.heap.size ≤ w9.heap.size := hb9.size
              have hbs9 : bs < w9.heap.size := World.block_lt_of_cell? _ _ hbs1
              have hscz := HZ.out
              clear hb8 hb9 hb89 cn8 fn8 hr7 fr7 hw fw HB7 HO7 HX6
              gi_wp2_with fail
              refine wpIn_rangeC (F := Fence.wide) rfl (by omega) (gf := 27) (lb := #[.pointer (some ⟨bs, 0, none⟩)]) rfl trivial (enters_of Tryd.func27 (by kernel_rfl) rfl)
                (things_seq sc hscz bs _ (by omega) w9 hbs1) (Below.refl _ _) (fun _ => rfl) (fun k => k = wr.heap.size ∨ k = w6.heap.size ∨ k = w.heap.size)
                (fun k hk hc => by subst hk; omega) (fun k hk => by subst hk; exact hbs9) (fun k hc => by omega)
                (fun (pre : List (Nat × ByteArray)) C W => W.cell? ⟨wr.heap.size, 0, none⟩ = some (.int .i64 pre.length) ∧ W.frozen? ⟨wr.heap.size, 0, none⟩ = false ∧ W.cell? ⟨w6.heap.size, 0, none⟩ = some (.int .i64 m) ∧ W.cell? ⟨w.heap.size, 0, none⟩ = some (.bool false) ∧ W.frozen? ⟨w.heap.size, 0, none⟩ = false ∧ C = (fun k => k = wr.heap.size ∨ k = w6.heap.size ∨ k = w.heap.size))
                (fun _ pre _ _ => ¬ pre <+: things sc) ?hI (fun _ _ _ _ _ h _ => h) ⟨cn9, fn9, cw9, hr9, fr9, rfl⟩ ?d1 ?assign ?body ?done ?stop
              case hI =>
                rintro pre C A B ⟨h1, h2, h3, h4, h5, rfl⟩ hs
                exact ⟨(hs.cell (p := ⟨wr.heap.size, 0, none⟩) (Or.inl rfl)).trans h1, (hs.frozen (p := ⟨wr.heap.size, 0, none⟩) (Or.inl rfl)).trans h2, (hs.cell (p := ⟨w6.heap.size, 0, none⟩) (Or.inr (Or.inl rfl))).trans h3,
                  (hs.cell (p := ⟨w.heap.size, 0, none⟩) (Or.inr (Or.inr rfl))).trans h4, (hs.frozen (p := ⟨w.heap.size, 0, none⟩) (Or.inr (Or.inr rfl))).trans h5, rfl⟩
              case assign =>
                intro l' x W K hK
                gi_wp2
                exact hK
              case stop =>
                rintro D c pre C W hpre h
                exact absurd hpre h
              case body =>
                rintro l' pre ⟨xa, xt⟩ C W ⟨cn, fn, cw, cr, fr, rfl⟩ hcm hf hlen
                have hWz : w9.heap.size ≤ W.heap.size := hcm.size
                have hlen2 : pre.length ≤ 100001 := by omega
                have HCNT := Lib.hid (cut_count HCS.out)
                have HFUL := Lib.hid (cut_full HCS.out)
                have HSL := Lib.hid (show ∀ v : Value, ¬ pre ++ [(xa, xt)] <+: things sc → ownPostC (fun (pre : List (Nat × ByteArray)) C W => W.cell? ⟨wr.heap.size, 0, none⟩ = some (.int .i64 pre.length) ∧ W.frozen? ⟨wr.heap.size, 0, none⟩ = false ∧ W.cell? ⟨w6.heap.size, 0, none⟩ = some (.int .i64 m) ∧ W.cell? ⟨w.heap.size, 0, none⟩ = some (.bool false) ∧ W.frozen? ⟨w.heap.size, 0, none⟩ = false ∧ C = (fun k => k = wr.heap.size ∨ k = w6.heap.size ∨ k = w.heap.size))
                    (fun _ pre _ _ => ¬ pre <+: things sc) (fun k => k = wr.heap.size ∨ k = w6.heap.size ∨ k = w.heap.size) (pre ++ [(xa, xt)]) W .ret { tmps := #[], defers := [] } (W.setCell ⟨w.heap.size, 0, none⟩ v) from fun v h =>
                  ⟨_, fun k hk => Or.inl hk, fun k hk => by rw [World.size_setCell]; omega, ⟨rfl, rfl, rfl, by rw [World.size_setCell]; exact Nat.le_refl _, fun k _ hn => Below.heap_setCell W ⟨w.heap.size, 0, none⟩ v k (fun e => hn (Or.inr (Or.inr e)))⟩, h⟩)
                clear hcm hf hlen
                by_cases hnm : m ≤ pre.length
                · have HH := Lib.hid (HSL.out (.bool false) (fun h => by
                    have := h.length_le
                    rw [HCNT.out] at this
                    simp at this; omega))
                  have nle : decide ((m : Int) ≤ (pre.length : Int)) = true := by simp; omega
                  clear HSL
                  gi_wp2
                  exact HH.out
                · have nle : decide ((m : Int) ≤ (pre.length : Int)) = false := by simp; omega
                  by_cases hx0 : xt.size = 0
                  · have HH := Lib.hid (HSL.out (.bool false) (fun h => by
                      have h1 : (xa, xt) ∈ things sc := h.subset (by simp)
                      exact HFUL.out _ h1 hx0))
                    clear HSL
                    gi_wp2
                    exact HH.out
                  · have hxn : ((xt.size : Int) == 0) = false := by rw [beq_eq_false_iff_ne]; omega
                    have hxd : decide ((xt.size : Int) = 0) = false := decide_eq_false (by omega)
                    clear HSL
                    gi_wp2
                    have o1 : ∀ k, k ≠ wr.heap.size → (W.setCell ⟨wr.heap.size, 0, none⟩ (.int .i64 ((pre.length : Int) + 1))).heap[k]? = W.heap[k]? := fun k e1 => Below.heap_setCell W ⟨wr.heap.size, 0, none⟩ _ k e1
                    refine ⟨_, fun k hk => Or.inl hk, fun k hk => ?_, ⟨rfl, rfl, rfl, ?_, fun k _ hk => o1 k (fun e => hk (Or.inl e))⟩, ?_, ?_, ?_, ?_, ?_, rfl⟩
                    · rw [World.size_setCell]; omega
                    · rw [World.size_setCell]; exact Nat.le_refl _
                    · rw [List.length_append, List.length_singleton]
                      exact World.cell?_setCell_same' _ _ _ (by rw [cn]; rfl)
                    · rw [World.frozen?_setCell]; exact fn
                    · exact (World.cell?_of_block (w := W) (a := ⟨w6.heap.size, 0, none⟩) (o1 w6.heap.size (by omega))).trans cw
                    · exact (World.cell?_of_block (w := W) (a := ⟨w.heap.size, 0, none⟩) (o1 w.heap.size (by omega))).trans cr
                    · rw [World.frozen?_setCell]; exact fr
              case done =>
                rintro D xs C w10 hS ⟨cn, fn, cw, cr, fr, rfl⟩ hcm hf rfl hD hsz10
                have hxm : xs.length = m := by rw [hS]; exact cut_count HCS.out
                rw [hxm] at cn
                have HB10 := Lib.hid (HB9.out.trans (hcm.below (n := w.heap.size) (by omega) (fun k h => by omega)))
                have HO10 := Lib.hid (ownsRow_heap HO9.out (hcm.block g2 (by omega) (fun h => by omega)))
                have hHD := Lib.hid hD
                clear hcm hf hD hS cn9 fn9 cw9 hr9 fr9 HB9 HO9 hbs0 hbs1 hbs9 hxm
                --STOP3
                obtain ⟨W5, h5⟩ : ∃ x, x = wr := ⟨_, rfl⟩
                subst h5
                gi_wp2_with fail
                refine (callsIn_wide.2 (read_post _ _)).mono ?_
                rintro e w11 ⟨rb, rfl, hrb, hrd, hb11⟩
                rw [← HSC.out] at hrd
                have hz11 : w10.heap.size ≤ w11.heap.size := hb11.size
                have hg2o : g2 < w10.heap.size := heap_lt (ownsRow_kind28 HO10.out).2.choose_spec.choose_spec
                have HST : Hid (St w11 rb sc ins m 0) := Lib.hid ⟨0, 0, by omega, hrd, Or.inl ⟨by omega, by simp [posM, encs], rfl⟩⟩
                have HB11 := Lib.hid (HB10.out.trans (hb11.mono HB10.out.size))
                have HO11 := Lib.hid (ownsRow_heap HO10.out (hb11.block g2 hg2o))
                have cn11 := (hb11.cell (p := ⟨W5.heap.size, 0, none⟩) (by show W5.heap.size < _; omega)).trans cn
                have cw11 := (hb11.cell (p := ⟨w6.heap.size, 0, none⟩) (by show w6.heap.size < _; omega)).trans cw
                have cr11 := (hb11.cell (p := ⟨w.heap.size, 0, none⟩) (by show w.heap.size < _; omega)).trans cr
                have fr11 := (hb11.frozen (p := ⟨w.heap.size, 0, none⟩) (by show w.heap.size < _; omega)).trans fr
                have HD11 := Lib.hid ((hb11.block w9.heap.size (by omega)).trans hHD.out)
                clear hb11 hrd cn cw cr fr fn hHD HO10 HB10
                --STOP4
                gi_wp2_with fail
                gi_loopw [93] (fun kv wy => ∃ k : Nat, k ≤ ins.length ∧ kv = .int .i64 k ∧ w11.heap.size ≤ wy.heap.size ∧ Hid (St wy rb sc ins m k) ∧ Hid (Below w.heap.size w wy) ∧ Hid (∀ q, q < w11.heap.size → q ≠ rb → wy.heap[q]? = w11.heap[q]?)) (fun kv _ => ins.length - (intOf kv).toNat)
                case atStart => exact ⟨0, by omega, rfl, Nat.le_refl _, HST, HB11, Lib.hid (fun _ _ _ => rfl)⟩
                case round =>
                  obtain ⟨k, hk, rfl, hzy, HSt, HBy, HF⟩ := hrel
                  by_cases hck : k < ins.length
                  · obtain ⟨c0, c1, c2⟩ := ((ThRow.mk' HO11.out).kept (HF.out g2 (by omega) (by omega))).cells k hck
                    have hkk : ins[k].k = 1 ∨ ins[k].k = 2 := (HPl.out _ (List.getElem_mem hck)).1
                    have RI := Lib.hid (fun w h (h1 : ins[k].k = 1) => st_int (w := w) (rb := rb) HCS.out h hck h1)
                    have RT := Lib.hid (fun w h (h1 : ins[k].k = 2) => st_text (w := w) (rb := rb) HCS.out h hck h1)
                    generalize ins[k] = t at c0 c1 c2 hkk RI RT
                    obtain ⟨kt, nt, st⟩ := t
                    simp only at c0 c1 c2 hkk
                    have hwy := (Below.refl wr.heap.size wr).alloc (Nat.le_refl _) (.cells #[.int .i64 kt, .int .i64 nt, .string st] 39)
                    have HSa := Lib.hid (HSt.out.below hwy)
                    have HBa := Lib.hid (HBy.out.trans (hwy.mono HBy.out.size))
                    have HFa : Hid (∀ q, q < w11.heap.size → q ≠ rb → (wr.alloc (.cells #[.int .i64 kt, .int .i64 nt, .string st] 39)).heap[q]? = w11.heap[q]?) := Lib.hid (fun q h1 h2 => (heap_old (by omega) _).trans (HF.out q h1 h2))
                    have hza : w11.heap.size ≤ (wr.alloc (.cells #[.int .i64 kt, .int .i64 nt, .string st] 39)).heap.size := by simp; omega
                    clear hwy HSt HBy HF
                    rcases hkk with rfl | rfl
                    · gi_wp2_with fail
                      refine (callsIn_wide.2 (RI.out _ HSa.out (by trivial))).mono ?_
                      rintro e w12 ⟨⟨v, rfl⟩, hS12, ho12⟩
                      have HS12 := Lib.hid hS12
                      have HB12 := Lib.hid (HBa.out.trans (ho12.below (by omega) HBa.out.size))
                      have HF12 : Hid (∀ q, q < w11.heap.size → q ≠ rb → w12.heap[q]? = w11.heap[q]?) := Lib.hid (fun q h1 h2 => (ho12.block q (by omega) h2).trans (HFa.out q h1 h2))
                      have hz12 : w11.heap.size ≤ w12.heap.size := Nat.le_trans hza ho12.size
                      clear hS12 ho12 RI RT HSa HBa HFa hza
                      gi_wp2_with fail
                      refine ⟨?_, ?_⟩
                      · exact ⟨k + 1, by omega, by go_num, hz12, HS12, HB12, HF12⟩
                      · simp [intOf]; omega
                    · gi_wp2_with fail
                      refine (callsIn_wide.2 (RT.out _ HSa.out (by trivial))).mono ?_
                      rintro e w12 ⟨⟨v, rfl⟩, hS12, ho12⟩
                      have HS12 := Lib.hid hS12
                      have HB12 := Lib.hid (HBa.out.trans (ho12.below (by omega) HBa.out.size))
                      have HF12 : Hid (∀ q, q < w11.heap.size → q ≠ rb → w12.heap[q]? = w11.heap[q]?) := Lib.hid (fun q h1 h2 => (ho12.block q (by omega) h2).trans (HFa.out q h1 h2))
                      have hz12 : w11.heap.size ≤ w12.heap.size := Nat.le_trans hza ho12.size
                      clear hS12 ho12 RI RT HSa HBa HFa hza
                      gi_wp2_with fail
                      refine ⟨?_, ?_⟩
                      · exact ⟨k + 1, by omega, by go_num, hz12, HS12, HB12, HF12⟩
                      · simp [intOf]; omega
                  · obtain rfl : k = ins.length := by omega
                    have cn12 := (World.cell?_of_block (w := w11) (w' := wr) (a := ⟨W5.heap.size, 0, none⟩) (HF.out W5.heap.size (by omega) (by omega))).trans cn11
                    have cw12 := (World.cell?_of_block (w := w11) (w' := wr) (a := ⟨w6.heap.size, 0, none⟩) (HF.out w6.heap.size (by omega) (by omega))).trans cw11
                    have cr12 := (World.cell?_of_block (w := w11) (w' := wr) (a := ⟨w.heap.size, 0, none⟩) (HF.out w.heap.size (by omega) (by omega))).trans cr11
                    have fr12 := (World.frozen?_of_block (w := w11) (w' := wr) (a := ⟨w.heap.size, 0, none⟩) (HF.out w.heap.size (by omega) (by omega))).trans fr11
                    have HD12 := Lib.hid ((HF.out w9.heap.size (by omega) (by omega)).trans HD11.out)
                    clear cn11 cw11 cr11 fr11 HD11 HF HO11 HB11 HST
                    --STOP5
                    gi_wp2_with fail
                    refine (callsIn_wide.2 (awake_any _ (tab_at HTAB.out HBy.out HBy.out.size))).mono ?_
                    rintro e w13 ⟨rfl, hb13⟩
                    have cn13 := (hb13.cell (p := ⟨W5.heap.size, 0, none⟩) (by show W5.heap.size < _; omega)).trans cn12
                    have cw13 := (hb13.cell (p := ⟨w6.heap.size, 0, none⟩) (by show w6.heap.size < _; omega)).trans cw12
                    have cr13 := (hb13.cell (p := ⟨w.heap.size, 0, none⟩) (by show w.heap.size < _; omega)).trans cr12
                    have fr13 := (hb13.frozen (p := ⟨w.heap.size, 0, none⟩) (by show w.heap.size < _; omega)).trans fr12
                    have HD13 := Lib.hid ((hb13.block w9.heap.size (by omega)).trans HD12.out)
                    have HB13 := Lib.hid (HBy.out.trans (hb13.mono HBy.out.size))
                    have HS13 := Lib.hid (HSt.out.below hb13)
                    have hz13 : w11.heap.size ≤ w13.heap.size := Nat.le_trans hzy hb13.size
                    clear hb13 cn12 cw12 cr12 fr12 HD12 HBy HSt
                    gi_wp2_with fail
                    refine (callsIn_wide.2 (st_done HCS.out HS13.out)).mono ?_
                    rintro e w14 ⟨rfl, ho14⟩
                    have cr14 := (ho14.cell (p := ⟨w.heap.size, 0, none⟩) (by show w.heap.size < _; omega) (by show w.heap.size ≠ _; omega)).trans cr13
                    have fr14 := (ho14.frozen (p := ⟨w.heap.size, 0, none⟩) (by show w.heap.size < _; omega) (by show w.heap.size ≠ _; omega)).trans fr13
                    have E1 := Lib.hid ((ho14.block w9.heap.size (by omega) (by omega)).trans HD13.out)
                    have HB14 := Lib.hid (HB13.out.trans (ho14.below (by omega) HB13.out.size))
                    clear ho14 cr13 fr13 HD13 HB13 HS13
                    gi_wp2
                    obtain ⟨Wz, hWz⟩ : ∃ Wz, Wz = w14.setCell ⟨w.heap.size, 0, none⟩ (.bool true) := ⟨_, rfl⟩
                    have eo : Wz.heap[w9.heap.size]? = w14.heap[w9.heap.size]? := by rw [hWz]; exact Below.heap_setCell w14 ⟨w.heap.size, 0, none⟩ _ _ (by show w9.heap.size ≠ w.heap.size; omega)
                    have crz : Wz.cell? ⟨w.heap.size, 0, none⟩ = some (.bool true) := by rw [hWz]; exact World.cell?_setCell_same' _ _ _ (by rw [cr14]; rfl)
                    have hbz : Below w.heap.size w Wz := by rw [hWz]; exact HB14.out.setCell (p := ⟨w.heap.size, 0, none⟩) (Nat.le_refl _) _
                    rw [← hWz]
                    have F1 : Wz.heap[w9.heap.size]? = some (.deferred (some [])) := eo.trans E1.out
                    have cf : (Wz.putObj w9.heap.size (.deferred none)).cell? ⟨w.heap.size, 0, none⟩ = some (.bool true) := by
                      rw [← crz]
                      exact World.cell?_of_block (a := ⟨w.heap.size, 0, none⟩) (World.putObj_heap_other (by show w.heap.size ≠ _; omega))
                    have bf : Below w.heap.size w (Wz.putObj w9.heap.size (.deferred none)) :=
                      ⟨hbz.os, hbz.tape, hbz.output, by simp only [World.putObj_size]; exact hbz.size, fun k hk => (World.putObj_heap_other (by omega)).trans (hbz.block k hk)⟩
                    clear hWz eo cr14 fr14
                    refine ⟨by simp, .inl ⟨_, _, rfl, run_takeDeferred F1, ?_⟩⟩
                    refine ⟨.bool true, ?_, rfl, bf⟩
                    simp [results, Tryd.results4, go_sem, cf]
end Go.Proofs.YtjcnlkbmigemhaaDoor
