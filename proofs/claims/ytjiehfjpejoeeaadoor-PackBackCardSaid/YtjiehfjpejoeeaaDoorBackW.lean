/-
  THE WALK of the law PackBack.
-/
import Derived.Test.YtjiehfjpejoeeaaDoorBackR
import Derived.Deep.RegionHeld3
namespace Go.Proofs.YtjiehfjpejoeeaaDoor
open Go.RowKit

theorem encs_app (l : List Th) (t : Th) : encs (l ++ [t]) = encs l ++ t.enc := by simp [encs]
set_option maxHeartbeats 8000000 in
theorem back_walk (p : Option Addr) (cap : Nat) (l : List Th) (w : World) (hA : ThAt w p l) (hl : l.length ≤ maxLen) (hok : ∀ t ∈ l, t.ok) (htab : Lib.TabBelow Tryd.prog w.heap.size w "internal/strconv.uint64pow10" .u64 Lib.pow10Tab) :
    Calls Tryd.prog 5 #[.slice p l.length cap] w fun e w' => e = .returned (.bool true) ∧ Below w.heap.size w w' := by
  obtain ⟨i0, hi, hz0, hz1, hz2⟩ := info_parts Tryd.infoTh
  have hba : Below w.heap.size w ((w.alloc (.cells #[.slice none 0 0] 25)).alloc (.cells #[] 28)) := ((Below.refl _ _).alloc (Nat.le_refl _) _).alloc (by simp) _
  have FEW := Lib.hid (few_any p cap l 40 _ (hA.below hba) hl (by omega) (fun t ht => (hok t ht).2.2))
  have hw0 := (Wr.new w).kept ((Below.refl _ _).alloc (Nat.le_refl _) (.cells #[] 28))
  have hI0 : ((w.alloc (.cells #[.slice none 0 0] 25)).alloc (.cells #[] 28)).ownsRow (w.heap.size + 1) 28 3 (.slice (some ⟨w.heap.size + 1, 0, none⟩) 0 0) 0 [] := by
    have h := World.ownsRow_made (base := w.heap.size + 1) (e := 28) (size := 3) (w.alloc (.cells #[.slice none 0 0] 25)) #[] 0 (by simp) (by decide) rfl
    simpa using h
  have hsm := few_small (n := 40) hok
  have hle := few_length l 40
  have HTAB := Lib.hid htab
  generalize fewL l 40 = fl at *
  clear htab hA hl hok
  have HS := Lib.hid hsm
  have HI0 := Lib.hid hI0
  clear hsm hI0
  go_enter Tryd.func5, Tryd.ntmps5
  go_wp2_with fail
  refine FEW.out.mono ?_
  rintro e w1 ⟨g, c, rfl, hrow, hb1⟩
  have hw1 := hw0.kept hb1
  have hB1 := hba.trans (hb1.mono hba.size)
  have HR := Lib.hid hrow
  have hge : w.heap.size + 2 ≤ g := by have := hrow.ge; simpa using this
  have hI1 := ownsRow_heap HI0.out (w' := w1) (hb1.block _ (by simp))
  have HI1 := Lib.hid hI1
  clear FEW hw0 hba hb1 hrow hI1 HI0
  go_wp2_with fail
  go_loopw [4, 5, 17] (fun inv dv iv wr => ∃ (k : Nat) (ins : List Th) (d : Int) (g2 c2 : Nat), k ≤ fl.length ∧ ins.length ≤ k ∧ 0 ≤ d ∧ d ≤ ins.length ∧ iv = .int .i64 k ∧ dv = .int .i64 d ∧ inv = .slice (some ⟨g2, 0, none⟩) ins.length c2 ∧ g2 ≠ g ∧ Hid (Good ins ∧ dep ins = d) ∧
      Hid (wr.ownsRow (w.heap.size + 1) 28 3 (.slice (some ⟨g2, 0, none⟩) ins.length c2) ins.length (thRow ins)) ∧ Hid (Wr wr w.heap.size (w.heap.size + 1) (encs ins)) ∧ Hid (Below w.heap.size w wr) ∧ Hid (wr.heap[g]? = w1.heap[g]?)) (fun _ _ iv _ => fl.length - (intOf iv).toNat)
  case atStart => exact ⟨0, [], 0, w.heap.size + 1, 0, by omega, by simp, by omega, by simp, rfl, rfl, rfl, by omega, Lib.hid ⟨Good.nil, rfl⟩, HI1, Lib.hid hw1, Lib.hid hB1, Lib.hid rfl⟩
  case round =>
    obtain ⟨k, ins, d, g2, c2, hk, hil, hd0, hdl, rfl, rfl, rfl, hne, HGd, HO, HW, HB, HX⟩ := hrel
    by_cases hc : k < fl.length
    · obtain ⟨hc0, hc1, hc2⟩ := (HR.out.kept HX.out).cells k hc
      have hsm := HS.out _ (List.getElem_mem hc)
      generalize fl[k] = t at hc0 hc1 hc2 hsm
      obtain ⟨kt, nt, st⟩ := t
      simp only at hc0 hc1 hc2
      obtain ⟨hn0, hn1, hsz⟩ := hsm
      simp only at hn0 hn1 hsz
      have hcs : (kt = 4 ∧ d = 0) ∨ kt < 1 ∨ 4 < kt ∨ kt = 3 ∨ (kt = 4 ∧ d ≠ 0) ∨ kt = 1 ∨ kt = 2 := by omega
      have hglt : g < wr.heap.size := by
        obtain ⟨cs, fz, h⟩ := (HR.out.kept HX.out).kind
        exact heap_lt h
      have h60 : ¬ 60 ≤ d := by omega
      have hel : (encs ins).length ≤ 300 * ins.length := encs_len (fun t ht => (HGd.out.1.kind t ht).2.2)
      rcases hcs with ⟨rfl, rfl⟩ | hlo | hhi | hkeep
      · go_wp2_with fail
        go_roundw
        case rel => exact ⟨k + 1, ins, 0, g2, c2, by omega, by omega, by omega, by omega, by go_num, rfl, rfl, hne, HGd, Lib.hid (HO.out.alloc _), Lib.hid (HW.out.kept ((Below.refl _ _).alloc (Nat.le_refl _) _)), Lib.hid (HB.out.alloc HB.out.size _), Lib.hid ((heap_old hglt _).trans HX.out)⟩
        case measure => simp [intOf]; omega
      · go_wp2_with fail
        go_roundw
        case rel => exact ⟨k + 1, ins, d, g2, c2, by omega, by omega, by omega, by omega, by go_num, rfl, rfl, hne, HGd, Lib.hid (HO.out.alloc _), Lib.hid (HW.out.kept ((Below.refl _ _).alloc (Nat.le_refl _) _)), Lib.hid (HB.out.alloc HB.out.size _), Lib.hid ((heap_old hglt _).trans HX.out)⟩
        case measure => simp [intOf]; omega
      · go_wp2_with fail
        go_roundw
        case rel => exact ⟨k + 1, ins, d, g2, c2, by omega, by omega, by omega, by omega, by go_num, rfl, rfl, hne, HGd, Lib.hid (HO.out.alloc _), Lib.hid (HW.out.kept ((Below.refl _ _).alloc (Nat.le_refl _) _)), Lib.hid (HB.out.alloc HB.out.size _), Lib.hid ((heap_old hglt _).trans HX.out)⟩
        case measure => simp [intOf]; omega
      · rcases hkeep with rfl | ⟨rfl, hd⟩ | rfl | rfl
        · have hgd : Good (ins ++ [⟨3, nt, st⟩]) ∧ dep (ins ++ [⟨3, nt, st⟩]) = (d + 1) := ⟨HGd.out.1.snoc (by simp) (by simp) ⟨hn0, hn1, hsz⟩ (by rw [HGd.out.2]; simp [Th.dlt]; try omega), by rw [dep_snoc, HGd.out.2]; simp [Th.dlt]; try omega⟩
          have HGn := Lib.hid hgd
          clear hgd
          go_wp2_with (at_builtin; refine wpList_append_own_at _ rfl (.tmp 57) (.tmp 59) 22 rfl (w.heap.size + 1) 28 i0 (.agg #[.int .i64 0, .int .i64 0, .string ⟨#[]⟩]) 3 32 Tryd.underlying22 hi hz0 hz1 hz2 rfl (by decide) (.slice (some ⟨g2, 0, none⟩) ins.length c2) ins.length (thRow ins) rfl ((HO.out.alloc _).alloc _) ⟨wr.heap.size + 1, 0, none⟩ 1 1 (Th.vals ⟨3, nt, st⟩) (by simp [go_sem]) rfl ?c1 ?c2 ?c3 ?c4 ?c5 ?_)
          case c1 => exact fun j u h => h
          case c2 => simp [Th.vals, Value.oneCell']
          case c3 => unfold maxLen; omega
          case c4 => omega
          case c5 => have := HW.out.le; first | omega | (simp; omega)
          intro v' w2 hown1 hgrow _ hat
          obtain ⟨g', cap', rfl⟩ := ownsRow_succ hown1
          obtain ⟨hW2, hB2, hX2, hne', q0, q1, q2⟩ := gathered ⟨3, nt, st⟩ HO.out HW.out HB.out hglt hne hgrow (g' := g') hat
          have PUT := Lib.hid (put_any w.heap.size (w.heap.size + 1) (encs ins) ⟨3, nt, st⟩ w2 hW2 (by omega) hsz hn0 hn1 (HTAB.out.on hB2))
          have HO2 := Lib.hid hown1
          have HX2 := Lib.hid hX2
          have HB2 := Lib.hid hB2
          clear hown1 hgrow hW2 hX2 hB2 HO HW HB
          go_wp2_with fail
          refine PUT.out.mono ?_
          rintro e w3 ⟨rfl, hw3, hf3⟩
          obtain ⟨hO3, hX3⟩ := after_put hf3 HO2.out (g := g) (by rw [HX2.out, HX.out]; exact HR.out.kind) (by omega)
          have HW3 := Lib.hid hw3
          have HO3 := Lib.hid hO3
          have HX3 := Lib.hid (hX3.trans (HX2.out.trans HX.out))
          have HB3 := Lib.hid (HB2.out.trans (hf3.below (by omega)))
          clear PUT HO2 hX3 HX2 HB2 hO3 hf3 hw3 HX
          go_wp2_with fail
          go_roundw
          case rel => exact ⟨k + 1, ins ++ [⟨3, nt, st⟩], (d + 1), g', cap', by omega, by simp; omega, by omega, by simp; omega, by go_num, by go_num, by simp, hne', HGn, Lib.hid (by rw [thRow_snoc, List.length_append]; exact HO3.out), Lib.hid (by rw [encs_app]; exact HW3.out), HB3, HX3⟩
          case measure => simp [intOf]; omega
        · have hgd : Good (ins ++ [⟨4, nt, st⟩]) ∧ dep (ins ++ [⟨4, nt, st⟩]) = (d - 1) := ⟨HGd.out.1.snoc (by simp) (by simp) ⟨hn0, hn1, hsz⟩ (by rw [HGd.out.2]; simp [Th.dlt]; try omega), by rw [dep_snoc, HGd.out.2]; simp [Th.dlt]; try omega⟩
          have HGn := Lib.hid hgd
          clear hgd
          go_wp2_with (at_builtin; refine wpList_append_own_at _ rfl (.tmp 57) (.tmp 59) 22 rfl (w.heap.size + 1) 28 i0 (.agg #[.int .i64 0, .int .i64 0, .string ⟨#[]⟩]) 3 32 Tryd.underlying22 hi hz0 hz1 hz2 rfl (by decide) (.slice (some ⟨g2, 0, none⟩) ins.length c2) ins.length (thRow ins) rfl ((HO.out.alloc _).alloc _) ⟨wr.heap.size + 1, 0, none⟩ 1 1 (Th.vals ⟨4, nt, st⟩) (by simp [go_sem]) rfl ?c1 ?c2 ?c3 ?c4 ?c5 ?_)
          case c1 => exact fun j u h => h
          case c2 => simp [Th.vals, Value.oneCell']
          case c3 => unfold maxLen; omega
          case c4 => omega
          case c5 => have := HW.out.le; first | omega | (simp; omega)
          intro v' w2 hown1 hgrow _ hat
          obtain ⟨g', cap', rfl⟩ := ownsRow_succ hown1
          obtain ⟨hW2, hB2, hX2, hne', q0, q1, q2⟩ := gathered ⟨4, nt, st⟩ HO.out HW.out HB.out hglt hne hgrow (g' := g') hat
          have PUT := Lib.hid (put_any w.heap.size (w.heap.size + 1) (encs ins) ⟨4, nt, st⟩ w2 hW2 (by omega) hsz hn0 hn1 (HTAB.out.on hB2))
          have HO2 := Lib.hid hown1
          have HX2 := Lib.hid hX2
          have HB2 := Lib.hid hB2
          clear hown1 hgrow hW2 hX2 hB2 HO HW HB
          go_wp2_with fail
          refine PUT.out.mono ?_
          rintro e w3 ⟨rfl, hw3, hf3⟩
          obtain ⟨hO3, hX3⟩ := after_put hf3 HO2.out (g := g) (by rw [HX2.out, HX.out]; exact HR.out.kind) (by omega)
          have HW3 := Lib.hid hw3
          have HO3 := Lib.hid hO3
          have HX3 := Lib.hid (hX3.trans (HX2.out.trans HX.out))
          have HB3 := Lib.hid (HB2.out.trans (hf3.below (by omega)))
          clear PUT HO2 hX3 HX2 HB2 hO3 hf3 hw3 HX
          go_wp2_with fail
          go_roundw
          case rel => exact ⟨k + 1, ins ++ [⟨4, nt, st⟩], (d - 1), g', cap', by omega, by simp; omega, by omega, by simp; omega, by go_num, by go_num, by simp, hne', HGn, Lib.hid (by rw [thRow_snoc, List.length_append]; exact HO3.out), Lib.hid (by rw [encs_app]; exact HW3.out), HB3, HX3⟩
          case measure => simp [intOf]; omega
        · have hgd : Good (ins ++ [⟨1, nt, st⟩]) ∧ dep (ins ++ [⟨1, nt, st⟩]) = d := ⟨HGd.out.1.snoc (by simp) (by simp) ⟨hn0, hn1, hsz⟩ (by rw [HGd.out.2]; simp [Th.dlt]; try omega), by rw [dep_snoc, HGd.out.2]; simp [Th.dlt]; try omega⟩
          have HGn := Lib.hid hgd
          clear hgd
          go_wp2_with (at_builtin; refine wpList_append_own_at _ rfl (.tmp 57) (.tmp 59) 22 rfl (w.heap.size + 1) 28 i0 (.agg #[.int .i64 0, .int .i64 0, .string ⟨#[]⟩]) 3 32 Tryd.underlying22 hi hz0 hz1 hz2 rfl (by decide) (.slice (some ⟨g2, 0, none⟩) ins.length c2) ins.length (thRow ins) rfl ((HO.out.alloc _).alloc _) ⟨wr.heap.size + 1, 0, none⟩ 1 1 (Th.vals ⟨1, nt, st⟩) (by simp [go_sem]) rfl ?c1 ?c2 ?c3 ?c4 ?c5 ?_)
          case c1 => exact fun j u h => h
          case c2 => simp [Th.vals, Value.oneCell']
          case c3 => unfold maxLen; omega
          case c4 => omega
          case c5 => have := HW.out.le; first | omega | (simp; omega)
          intro v' w2 hown1 hgrow _ hat
          obtain ⟨g', cap', rfl⟩ := ownsRow_succ hown1
          obtain ⟨hW2, hB2, hX2, hne', q0, q1, q2⟩ := gathered ⟨1, nt, st⟩ HO.out HW.out HB.out hglt hne hgrow (g' := g') hat
          have PUT := Lib.hid (put_any w.heap.size (w.heap.size + 1) (encs ins) ⟨1, nt, st⟩ w2 hW2 (by omega) hsz hn0 hn1 (HTAB.out.on hB2))
          have HO2 := Lib.hid hown1
          have HX2 := Lib.hid hX2
          have HB2 := Lib.hid hB2
          clear hown1 hgrow hW2 hX2 hB2 HO HW HB
          go_wp2_with fail
          refine PUT.out.mono ?_
          rintro e w3 ⟨rfl, hw3, hf3⟩
          obtain ⟨hO3, hX3⟩ := after_put hf3 HO2.out (g := g) (by rw [HX2.out, HX.out]; exact HR.out.kind) (by omega)
          have HW3 := Lib.hid hw3
          have HO3 := Lib.hid hO3
          have HX3 := Lib.hid (hX3.trans (HX2.out.trans HX.out))
          have HB3 := Lib.hid (HB2.out.trans (hf3.below (by omega)))
          clear PUT HO2 hX3 HX2 HB2 hO3 hf3 hw3 HX
          go_wp2_with fail
          go_roundw
          case rel => exact ⟨k + 1, ins ++ [⟨1, nt, st⟩], d, g', cap', by omega, by simp; omega, by omega, by simp; omega, by go_num, by go_num, by simp, hne', HGn, Lib.hid (by rw [thRow_snoc, List.length_append]; exact HO3.out), Lib.hid (by rw [encs_app]; exact HW3.out), HB3, HX3⟩
          case measure => simp [intOf]; omega
        · have hgd : Good (ins ++ [⟨2, nt, st⟩]) ∧ dep (ins ++ [⟨2, nt, st⟩]) = d := ⟨HGd.out.1.snoc (by simp) (by simp) ⟨hn0, hn1, hsz⟩ (by rw [HGd.out.2]; simp [Th.dlt]; try omega), by rw [dep_snoc, HGd.out.2]; simp [Th.dlt]; try omega⟩
          have HGn := Lib.hid hgd
          clear hgd
          go_wp2_with (at_builtin; refine wpList_append_own_at _ rfl (.tmp 57) (.tmp 59) 22 rfl (w.heap.size + 1) 28 i0 (.agg #[.int .i64 0, .int .i64 0, .string ⟨#[]⟩]) 3 32 Tryd.underlying22 hi hz0 hz1 hz2 rfl (by decide) (.slice (some ⟨g2, 0, none⟩) ins.length c2) ins.length (thRow ins) rfl ((HO.out.alloc _).alloc _) ⟨wr.heap.size + 1, 0, none⟩ 1 1 (Th.vals ⟨2, nt, st⟩) (by simp [go_sem]) rfl ?c1 ?c2 ?c3 ?c4 ?c5 ?_)
          case c1 => exact fun j u h => h
          case c2 => simp [Th.vals, Value.oneCell']
          case c3 => unfold maxLen; omega
          case c4 => omega
          case c5 => have := HW.out.le; first | omega | (simp; omega)
          intro v' w2 hown1 hgrow _ hat
          obtain ⟨g', cap', rfl⟩ := ownsRow_succ hown1
          obtain ⟨hW2, hB2, hX2, hne', q0, q1, q2⟩ := gathered ⟨2, nt, st⟩ HO.out HW.out HB.out hglt hne hgrow (g' := g') hat
          have PUT := Lib.hid (put_any w.heap.size (w.heap.size + 1) (encs ins) ⟨2, nt, st⟩ w2 hW2 (by omega) hsz hn0 hn1 (HTAB.out.on hB2))
          have HO2 := Lib.hid hown1
          have HX2 := Lib.hid hX2
          have HB2 := Lib.hid hB2
          clear hown1 hgrow hW2 hX2 hB2 HO HW HB
          go_wp2_with fail
          refine PUT.out.mono ?_
          rintro e w3 ⟨rfl, hw3, hf3⟩
          obtain ⟨hO3, hX3⟩ := after_put hf3 HO2.out (g := g) (by rw [HX2.out, HX.out]; exact HR.out.kind) (by omega)
          have HW3 := Lib.hid hw3
          have HO3 := Lib.hid hO3
          have HX3 := Lib.hid (hX3.trans (HX2.out.trans HX.out))
          have HB3 := Lib.hid (HB2.out.trans (hf3.below (by omega)))
          clear PUT HO2 hX3 HX2 HB2 hO3 hf3 hw3 HX
          go_wp2_with fail
          go_roundw
          case rel => exact ⟨k + 1, ins ++ [⟨2, nt, st⟩], d, g', cap', by omega, by simp; omega, by omega, by simp; omega, by go_num, by go_num, by simp, hne', HGn, Lib.hid (by rw [thRow_snoc, List.length_append]; exact HO3.out), Lib.hid (by rw [encs_app]; exact HW3.out), HB3, HX3⟩
          case measure => simp [intOf]; omega
    · obtain rfl : k = fl.length := by omega
      obtain ⟨D, rfl⟩ : ∃ D : Nat, d = D := ⟨d.toNat, by omega⟩
      have hD : D ≤ 40 := by omega
      have hel : (encs ins).length ≤ 300 * ins.length := encs_len (fun t ht => (HGd.out.1.kind t ht).2.2)
      clear HS HR HI1 hw1 HX hne
      go_wp2_with fail
      go_loopw [8] (fun jv wx => ∃ j : Nat, j ≤ D ∧ jv = .int .i64 j ∧ Hid (Wr wx w.heap.size (w.heap.size + 1) (encs ins ++ List.replicate j 41)) ∧ Hid (WFr w.heap.size (w.heap.size + 1) wr wx)) (fun jv _ => D - (intOf jv).toNat)
      case atStart => exact ⟨0, by omega, rfl, Lib.hid (by simpa using HW.out), Lib.hid (WFr.refl _ _ _)⟩
      case round =>
        obtain ⟨j, hj, rfl, HWx, HFx⟩ := hrel
        by_cases hcj : j < D
        · go_wp2_with fail
          refine (wclose_any _ _ _ _ HWx.out (by simp; omega)).mono ?_
          rintro e w5 ⟨rfl, hw5, hf5⟩
          have HW5 := Lib.hid hw5
          have HF5 := Lib.hid (HFx.out.trans hf5)
          clear hw5 hf5
          go_wp2_with fail
          go_roundw
          case rel => exact ⟨j + 1, by omega, by go_num, Lib.hid (by rw [List.replicate_succ', ← List.append_assoc]; exact HW5.out), HF5⟩
          case measure => simp [intOf]; omega
        · obtain rfl : j = D := by omega
          have hO6 := (after_put HFx.out HO.out (g := g2) (ownsRow_kind28 HO.out).2 (by have := (ownsRow_kind28 HO.out).1; omega)).1
          have HO6 := Lib.hid hO6
          have HB6 := Lib.hid (HB.out.trans (HFx.out.below (by omega)))
          have hgd := HGd.out
          clear hO6 HO HB HFx HW
          go_wp2_with fail
          refine (wbytes_any _ _ _ _ HWx.out).mono ?_
          rintro e w6 ⟨rfl, rfl⟩
          have HSS := Lib.hid (show (⟨(encs ins ++ List.replicate j 41).toArray⟩ : ByteArray).data.toList = encs ins ++ List.replicate j 41 from rfl)
          have hsz : (⟨(encs ins ++ List.replicate j 41).toArray⟩ : ByteArray).size ≤ 100000 := by
            have e : (⟨(encs ins ++ List.replicate j 41).toArray⟩ : ByteArray).size = (encs ins ++ List.replicate j 41).length := by simp [ByteArray.size]
            rw [e]; simp; omega
          generalize (⟨(encs ins ++ List.replicate j 41).toArray⟩ : ByteArray) = s at *
          go_wp2_with fail
          refine (read_post _ _).mono ?_
          rintro e w7 ⟨rb, rfl, hrb, hr, hb7⟩
          obtain ⟨hg2b, cs2, fz2, hk2⟩ := ownsRow_kind28 HO6.out
          have hg2 := heap_lt hk2
          have HO7 := Lib.hid (ownsRow_heap HO6.out (hb7.block g2 hg2))
          have HB7 := Lib.hid (HB6.out.trans (hb7.mono HB6.out.size))
          have hg2rb : g2 ≠ rb := by omega
          have hbrb : w.heap.size ≤ rb := Nat.le_trans HB6.out.size hrb
          have HR7 : Hid (Rd w7 rb s (posM ins 0) (depM ins 0) 0) := Lib.hid (by simpa [posM, depM, dep, encs] using hr)
          clear hk2 hg2 hrb hr hb7 HO6 HB6 HWx
          have HGG := Lib.hid hgd
          clear hgd
          go_wp2_with fail
          go_loopw [74] (fun mv wy => ∃ m : Nat, m ≤ ins.length ∧ mv = .int .i64 m ∧ Hid (Rd wy rb s (posM ins m) (depM ins m) 0) ∧ Hid (Below w.heap.size w wy) ∧ Hid (wy.heap[g2]? = w7.heap[g2]?)) (fun mv _ => ins.length - (intOf mv).toNat)
          case atStart => exact ⟨0, by omega, rfl, HR7, HB7, Lib.hid rfl⟩
          case round =>
            obtain ⟨m, hm, rfl, HRd, HBy, HXy⟩ := hrel
            by_cases hcm : m < ins.length
            · obtain ⟨c0, c1, c2⟩ := ((ThRow.mk' HO7.out).kept HXy.out).cells m hcm
              have hkd := HGG.out.1.kind _ (List.getElem_mem hcm)
              have hE : ∃ t, ins[m] = t := ⟨_, rfl⟩
              obtain ⟨⟨kt, nt, st⟩, hE⟩ := hE
              rw [hE] at c0 c1 c2 hkd
              have HE := Lib.hid hE
              clear hE
              simp only at c0 c1 c2
              obtain ⟨hk1, hk4, hn0, hn1, hst⟩ := hkd
              simp only at hk1 hk4 hn0 hn1 hst
              have hwy := (Below.refl wr.heap.size wr).alloc (Nat.le_refl _) (.cells #[.int .i64 kt, .int .i64 nt, .string st] 28)
              have HRa := Lib.hid (HRd.out.below hwy HRd.out.lt)
              have HBa := Lib.hid (HBy.out.trans (hwy.mono HBy.out.size))
              have HXa := Lib.hid ((heap_old (ownsRow_lt HO7.out HXy.out) (.cells #[.int .i64 kt, .int .i64 nt, .string st] 28)).trans HXy.out)
              have hbx : wr.heap.size ≠ rb := by have := HRd.out.lt; omega
              clear hwy
              rcases (by omega : kt = 3 ∨ kt = 4 ∨ kt = 1 ∨ kt = 2) with rfl | rfl | rfl | rfl
              · have RD := Lib.hid (fun w (h : Rd w rb s (posM ins m) (depM ins m) 0) => rd_open (w := w) h HSS.out HGG.out.1 hcm (by omega) hsz HE.out)
                go_wp2_with fail
                refine (RD.out _ HRa.out).mono ?_
                rintro e w8 ⟨rfl, hr8, ho8⟩
                have HR8 := Lib.hid hr8
                have HB8 := Lib.hid (HBa.out.trans (ho8.below hbrb HBa.out.size))
                have HX8 := Lib.hid ((ho8.block g2 (ownsRow_lt HO7.out HXa.out) hg2rb).trans HXa.out)
                clear hr8 ho8
                go_wp2_with fail
                go_roundw
                case rel => exact ⟨m + 1, by omega, by go_num, HR8, HB8, HX8⟩
                case measure => simp [intOf]; omega
              · have RD := Lib.hid (fun w (h : Rd w rb s (posM ins m) (depM ins m) 0) => rd_close (w := w) h HSS.out HGG.out.1 hcm (by omega) hsz HE.out)
                go_wp2_with fail
                refine (RD.out _ HRa.out).mono ?_
                rintro e w8 ⟨rfl, hr8, ho8⟩
                have HR8 := Lib.hid hr8
                have HB8 := Lib.hid (HBa.out.trans (ho8.below hbrb HBa.out.size))
                have HX8 := Lib.hid ((ho8.block g2 (ownsRow_lt HO7.out HXa.out) hg2rb).trans HXa.out)
                clear hr8 ho8
                go_wp2_with fail
                go_roundw
                case rel => exact ⟨m + 1, by omega, by go_num, HR8, HB8, HX8⟩
                case measure => simp [intOf]; omega
              · have RDI := Lib.hid (fun w (h : Rd w rb s (posM ins m) (depM ins m) 0) => rd_int (w := w) h HSS.out HGG.out.1 hcm hsz HE.out)
                have q1 : (wr.alloc (.cells #[.int .i64 1, .int .i64 nt, .string st] 28)).cell? ⟨wr.heap.size, 1, none⟩ = some (.int .i64 nt) := by simp [go_sem]
                have hlt : wr.heap.size < (wr.alloc (.cells #[.int .i64 1, .int .i64 nt, .string st] 28)).heap.size := by simp
                go_wp2_with fail
                generalize wr.alloc (.cells #[.int .i64 1, .int .i64 nt, .string st] 28) = W0 at *
                go_region_held3 (fun w' => w'.cell? ⟨wr.heap.size, 1, none⟩ = some (.int .i64 nt)) (first | assumption | go_keep) ((go_at_call 21; refine (RDI.out _ (by first | exact HRa.out | exact HRa.out.drew | exact HRa.out.drewN)).mono ?_; rintro e w8 ⟨rfl, hr8, ho8⟩; have q8 := (ho8.cell (p := ⟨wr.heap.size, 1, none⟩) (by simpa using hlt) hbx).trans (by first | exact q1 | simpa using q1)))
                all_goals
                  have HR8 := Lib.hid hr8
                  have HB8 := Lib.hid (HBa.out.drew.trans (ho8.below hbrb HBa.out.drew.size))
                  have HX8 := Lib.hid ((ho8.block g2 (ownsRow_lt HO7.out HXa.out) hg2rb).trans HXa.out)
                  clear hr8 ho8
                  go_wp2_with fail
                  go_roundw
                  case rel => exact ⟨m + 1, by omega, by go_num, HR8, HB8, HX8⟩
                  case measure => simp [intOf]; omega
              · have RDI := Lib.hid (fun w (h : Rd w rb s (posM ins m) (depM ins m) 0) => rd_text (w := w) h HSS.out HGG.out.1 hcm hsz HE.out st.size (Nat.le_refl _))
                have q1 : (wr.alloc (.cells #[.int .i64 2, .int .i64 nt, .string st] 28)).cell? ⟨wr.heap.size, 2, none⟩ = some (.string st) := by simp [go_sem]
                have hlt : wr.heap.size < (wr.alloc (.cells #[.int .i64 2, .int .i64 nt, .string st] 28)).heap.size := by simp
                go_wp2_with fail
                generalize wr.alloc (.cells #[.int .i64 2, .int .i64 nt, .string st] 28) = W0 at *
                go_region_held3 (fun w' => w'.cell? ⟨wr.heap.size, 2, none⟩ = some (.string st)) (first | assumption | go_keep) ((go_at_call 22; refine (RDI.out _ (by first | exact HRa.out | exact HRa.out.drew | exact HRa.out.drewN)).mono ?_; rintro e w8 ⟨rfl, hr8, ho8⟩; have q8 := (ho8.cell (p := ⟨wr.heap.size, 2, none⟩) (by simpa using hlt) hbx).trans (by first | exact q1 | simpa using q1)))
                all_goals
                  have HR8 := Lib.hid hr8
                  have HB8 := Lib.hid (HBa.out.drew.trans (ho8.below hbrb HBa.out.drew.size))
                  have HX8 := Lib.hid ((ho8.block g2 (ownsRow_lt HO7.out HXa.out) hg2rb).trans HXa.out)
                  clear hr8 ho8
                  go_wp2_with fail
                  go_roundw
                  case rel => exact ⟨m + 1, by omega, by go_num, HR8, HB8, HX8⟩
                  case measure => simp [intOf]; omega
            · obtain rfl : m = ins.length := by omega
              have hR8 : Rd wr rb s ((encs ins).length + 0) (j - 0) 0 := by
                have h := HRd.out
                have e1 : posM ins ins.length = (encs ins).length + 0 := by unfold posM; rw [List.take_length]; rfl
                have e2 : depM ins ins.length = j - 0 := by unfold depM; rw [List.take_length, HGG.out.2]; simp
                rwa [e1, e2] at h
              have HR8 := Lib.hid hR8
              have hse : s.size = (encs ins).length + j := by have := congrArg List.length HSS.out; simp at this; omega
              clear hR8 HRd HO7 HR7 HXy
              go_wp2_with fail
              go_loopw [12] (fun iv wz => ∃ i : Nat, i ≤ j ∧ iv = .int .i64 i ∧ Hid (Rd wz rb s ((encs ins).length + i) (j - i) 0) ∧ Hid (Below w.heap.size w wz)) (fun iv _ => j - (intOf iv).toNat)
              case atStart => exact ⟨0, by omega, rfl, HR8, HBy⟩
              case round =>
                obtain ⟨i, hi4, rfl, HRi, HBi⟩ := hrel
                by_cases hci : i < j
                · have RD := Lib.hid (rd_end HRi.out HSS.out hci (by omega) hsz)
                  go_wp2_with fail
                  refine RD.out.mono ?_
                  rintro e w9 ⟨rfl, hr9, ho9⟩
                  have HR9 := Lib.hid hr9
                  have HB9 := Lib.hid (HBi.out.trans (ho9.below hbrb HBi.out.size))
                  clear hr9 ho9 RD
                  go_wp2_with fail
                  go_roundw
                  case rel => exact ⟨i + 1, by omega, by go_num, HR9, HB9⟩
                  case measure => simp [intOf]; omega
                · obtain rfl : i = j := by omega
                  have e1 : doneE s ((encs ins).length + i) (i - i) 0 = 0 := by unfold doneE; rw [if_neg (by omega), if_neg (by omega)]
                  have DN := Lib.hid (fun w (h : Rd w rb s ((encs ins).length + i) (i - i) 0) => done_any rb s _ _ 0 w h (by omega) (by unfold maxLen; omega))
                  rw [e1] at DN
                  clear e1
                  go_wp2_with fail
                  refine (awake_any _ (tab_at HTAB.out HBi.out HBi.out.size)).mono ?_
                  rintro e w9 ⟨rfl, hb9⟩
                  have hr9 := HRi.out.below hb9 HRi.out.lt
                  have hB9 := HBi.out.trans (hb9.mono HBi.out.size)
                  clear hb9
                  go_wp2_with fail
                  refine (DN.out _ hr9).mono ?_
                  rintro e w10 ⟨rfl, hr10, ho10⟩
                  have hB10 := hB9.trans (ho10.below hbrb hB9.size)
                  clear hr9 ho10 hB9
                  go_wp2_with fail
                  go_ret
                  exact ⟨rfl, hB10⟩
end Go.Proofs.YtjiehfjpejoeeaaDoor
