/-
  THE WALK of the law PackSkips.
-/
import Derived.Test.YtjcnlkbmigemhaaDoorSkipsM
import Derived.Deep.RegionHeld3
import Derived.BigGuard
namespace Go.Proofs.YtjcnlkbmigemhaaDoor
open Go.RowKit

/-- A row of bools that came in. -/
def BoolsAt (w : World) (q : Option Addr) (n : Nat) : Prop := ∀ i, i < n → ∃ a v, q = some a ∧ a.block < w.heap.size ∧ w.cell? (a.add i) = some (.bool v)
theorem BoolsAt.below {w w' : World} {q : Option Addr} {n : Nat} (h : BoolsAt w q n) (hb : Below w.heap.size w w') : BoolsAt w' q n := fun i hi => by
  obtain ⟨a, v, h1, h2, h3⟩ := h i hi
  exact ⟨a, v, h1, Nat.lt_of_lt_of_le h2 hb.size, (hb.cell (p := a.add i) (add_lt h2 _)).trans h3⟩
set_option maxHeartbeats 8000000 in
theorem skips_walk (p : Option Addr) (cap : Nat) (l : List Th) (q : Option Addr) (n2 cap2 : Nat) (w : World) (hA : ThAt w p l) (hl : l.length ≤ maxLen) (hok : ∀ t ∈ l, t.ok) (hQ : BoolsAt w q n2) (hn2 : n2 ≤ maxLen) (htab : Lib.TabBelow Tryd.prog w.heap.size w "internal/strconv.uint64pow10" .u64 Lib.pow10Tab) :
    Calls Tryd.prog 6 #[.slice p l.length cap, .slice q n2 cap2] w fun e w' => e = .returned (.bool true) ∧ Below w.heap.size w w' := by
  obtain ⟨i0, hi, hz0, hz1, hz2⟩ := info_parts Tryd.infoTh
  have hba : Below w.heap.size w ((w.alloc (.cells #[.slice none 0 0] 35)).alloc (.cells #[] 39)) := ((Below.refl _ _).alloc (Nat.le_refl _) _).alloc (by simp) _
  have FEW := Lib.hid (few_any p cap l 20 _ (hA.below hba) hl (by omega) (fun t ht => (hok t ht).2.2))
  have hw0 := (Wr.new w).kept ((Below.refl _ _).alloc (Nat.le_refl _) (.cells #[] 39))
  have hI0 : ((w.alloc (.cells #[.slice none 0 0] 35)).alloc (.cells #[] 39)).ownsRow (w.heap.size + 1) 39 3 (.slice (some ⟨w.heap.size + 1, 0, none⟩) 0 0) 0 [] := by
    have h := World.ownsRow_made (base := w.heap.size + 1) (e := 39) (size := 3) (w.alloc (.cells #[.slice none 0 0] 35)) #[] 0 (by simp) (by decide) rfl
    simpa using h
  have hsm := few_small (n := 20) hok
  have hle := few_length l 20
  have HTAB := Lib.hid htab
  have HQ := Lib.hid hQ
  unfold maxLen at hn2
  generalize fewL l 20 = fl at *
  clear htab hA hl hok hQ
  have HS := Lib.hid hsm
  have HI0 := Lib.hid hI0
  clear hsm hI0
  go_enter Tryd.func6, Tryd.ntmps6
  go_wp2_with fail
  refine FEW.out.mono ?_
  rintro e w1 ⟨g, c, rfl, hrow, hb1⟩
  have hw1 := hw0.kept hb1
  have hB1 := hba.trans (hb1.mono hba.size)
  have HR := Lib.hid hrow
  have hge : w.heap.size + 2 ≤ g := by have := hrow.ge; simpa using this
  have hI1 := ownsRow_heap HI0.out (w' := w1) (hb1.block _ (by simp))
  have HI1 := Lib.hid hI1
  clear FEW hw0 hba hb1 hrow hI1 HI0
  go_wp2_with fail
  go_loopw [6, 16] (fun inv iv wr => ∃ (k : Nat) (ins : List Th) (g2 c2 : Nat), k ≤ fl.length ∧ ins.length ≤ k ∧ iv = .int .i64 k ∧ inv = .slice (some ⟨g2, 0, none⟩) ins.length c2 ∧ g2 ≠ g ∧ Hid (Plain ins) ∧
      Hid (wr.ownsRow (w.heap.size + 1) 39 3 (.slice (some ⟨g2, 0, none⟩) ins.length c2) ins.length (thRow ins)) ∧ Hid (Wr wr w.heap.size (w.heap.size + 1) (encs ins)) ∧ Hid (Below w.heap.size w wr) ∧ Hid (wr.heap[g]? = w1.heap[g]?)) (fun _ iv _ => fl.length - (intOf iv).toNat)
  case atStart => exact ⟨0, [], w.heap.size + 1, 0, by omega, by simp, rfl, rfl, by omega, Lib.hid (fun t h => absurd h (by simp)), HI1, Lib.hid hw1, Lib.hid hB1, Lib.hid rfl⟩
  case round =>
    obtain ⟨k, ins, g2, c2, hk, hil, rfl, rfl, hne, HPl, HO, HW, HB, HX⟩ := hrel
    by_cases hc : k < fl.length
    · obtain ⟨hc0, hc1, hc2⟩ := (HR.out.kept HX.out).cells k hc
      have hsm := HS.out _ (List.getElem_mem hc)
      generalize fl[k] = t at hc0 hc1 hc2 hsm
      obtain ⟨kt, nt, st⟩ := t
      simp only at hc0 hc1 hc2
      obtain ⟨hn0, hn1, hsz⟩ := hsm
      simp only at hn0 hn1 hsz
      have hglt : g < wr.heap.size := by
        obtain ⟨cs, fz, h⟩ := (HR.out.kept HX.out).kind
        exact heap_lt h
      have hel : (encs ins).length ≤ 300 * ins.length := encs_len (fun t ht => (HPl.out t ht).2)
      rcases (by omega : (kt ≠ 1 ∧ kt ≠ 2) ∨ kt = 1 ∨ kt = 2) with ⟨hlo, hhi⟩ | hkeep
      · have b1 : (kt == 1) = false := by simpa using hlo
        have b2 : (kt == 2) = false := by simpa using hhi
        have b3 : decide (kt = 1) = false := by simpa using hlo
        have b4 : decide (kt = 2) = false := by simpa using hhi
        go_wp2_with fail
        go_roundw
        case rel => exact ⟨k + 1, ins, g2, c2, by omega, by omega, by go_num, rfl, hne, HPl, Lib.hid (HO.out.alloc _), Lib.hid (HW.out.kept ((Below.refl _ _).alloc (Nat.le_refl _) _)), Lib.hid (HB.out.alloc HB.out.size _), Lib.hid ((heap_old hglt _).trans HX.out)⟩
        case measure => simp [intOf]; omega
      · rcases hkeep with rfl | rfl
        · have HGn := Lib.hid (HPl.out.snoc (t := ⟨1, nt, st⟩) (Or.inl rfl) ⟨hn0, hn1, hsz⟩)
          go_wp2_with (at_builtin; refine wpList_append_own_at _ rfl (.tmp 28) (.tmp 30) 32 rfl (w.heap.size + 1) 39 i0 (.agg #[.int .i64 0, .int .i64 0, .string ⟨#[]⟩]) 3 32 Tryd.underlying32 hi hz0 hz1 hz2 rfl (by decide) (.slice (some ⟨g2, 0, none⟩) ins.length c2) ins.length (thRow ins) rfl ((HO.out.alloc _).alloc _) ⟨wr.heap.size + 1, 0, none⟩ 1 1 (Th.vals ⟨1, nt, st⟩) (by simp [go_sem]) rfl ?c1 ?c2 ?c3 ?c4 ?c5 ?_)
          case c1 => exact th_new _ ⟨1, nt, st⟩ (by simp)
          case c2 => simp [Th.vals, Value.oneCell']
          case c3 => unfold maxLen; omega
          case c4 => omega
          case c5 => have := HW.out.le; first | omega | (simp; omega)
          intro v' w2 hown1 hgrow _ hat
          obtain ⟨g', cap', rfl⟩ := ownsRow_succ hown1
          obtain ⟨hW2, hB2, hX2, hne', q0, q1, q2⟩ := gathered ⟨1, nt, st⟩ HO.out HW.out HB.out hglt hne hgrow (g' := g') hat
          have PUT := Lib.hid (put_any w.heap.size (w.heap.size + 1) (encs ins) ⟨1, nt, st⟩ w2 hW2 (by omega) hsz hn0 hn1 (HTAB.out.on hB2))
          have HO2 := Lib.hid hown1
          have HX2 := Lib.hid hX2
          have HB2 := Lib.hid hB2
          clear hown1 hgrow hW2 hX2 hB2 HO HW HB
          go_wp2_with fail
          refine PUT.out.mono ?_
          rintro e w3 ⟨rfl, hw3, hf3⟩
          obtain ⟨hO3, hX3⟩ := after_put hf3 HO2.out (g := g) (by rw [HX2.out, HX.out]; exact HR.out.kind) (by omega)
          have HW3 := Lib.hid hw3
          have HO3 := Lib.hid hO3
          have HX3 := Lib.hid (hX3.trans (HX2.out.trans HX.out))
          have HB3 := Lib.hid (HB2.out.trans (hf3.below (by omega)))
          clear PUT HO2 hX3 HX2 HB2 hO3 hf3 hw3 HX
          go_wp2_with fail
          go_roundw
          case rel => exact ⟨k + 1, ins ++ [⟨1, nt, st⟩], g', cap', by omega, by simp; omega, by go_num, by simp, hne', HGn, Lib.hid (by rw [thRow_snoc, List.length_append]; exact HO3.out), Lib.hid (by rw [encs_snoc1]; exact HW3.out), HB3, HX3⟩
          case measure => simp [intOf]; omega
        · have HGn := Lib.hid (HPl.out.snoc (t := ⟨2, nt, st⟩) (Or.inr rfl) ⟨hn0, hn1, hsz⟩)
          go_wp2_with (at_builtin; refine wpList_append_own_at _ rfl (.tmp 28) (.tmp 30) 32 rfl (w.heap.size + 1) 39 i0 (.agg #[.int .i64 0, .int .i64 0, .string ⟨#[]⟩]) 3 32 Tryd.underlying32 hi hz0 hz1 hz2 rfl (by decide) (.slice (some ⟨g2, 0, none⟩) ins.length c2) ins.length (thRow ins) rfl ((HO.out.alloc _).alloc _) ⟨wr.heap.size + 1, 0, none⟩ 1 1 (Th.vals ⟨2, nt, st⟩) (by simp [go_sem]) rfl ?c1 ?c2 ?c3 ?c4 ?c5 ?_)
          case c1 => exact th_new _ ⟨2, nt, st⟩ (by simp)
          case c2 => simp [Th.vals, Value.oneCell']
          case c3 => unfold maxLen; omega
          case c4 => omega
          case c5 => have := HW.out.le; first | omega | (simp; omega)
          intro v' w2 hown1 hgrow _ hat
          obtain ⟨g', cap', rfl⟩ := ownsRow_succ hown1
          obtain ⟨hW2, hB2, hX2, hne', q0, q1, q2⟩ := gathered ⟨2, nt, st⟩ HO.out HW.out HB.out hglt hne hgrow (g' := g') hat
          have PUT := Lib.hid (put_any w.heap.size (w.heap.size + 1) (encs ins) ⟨2, nt, st⟩ w2 hW2 (by omega) hsz hn0 hn1 (HTAB.out.on hB2))
          have HO2 := Lib.hid hown1
          have HX2 := Lib.hid hX2
          have HB2 := Lib.hid hB2
          clear hown1 hgrow hW2 hX2 hB2 HO HW HB
          go_wp2_with fail
          refine PUT.out.mono ?_
          rintro e w3 ⟨rfl, hw3, hf3⟩
          obtain ⟨hO3, hX3⟩ := after_put hf3 HO2.out (g := g) (by rw [HX2.out, HX.out]; exact HR.out.kind) (by omega)
          have HW3 := Lib.hid hw3
          have HO3 := Lib.hid hO3
          have HX3 := Lib.hid (hX3.trans (HX2.out.trans HX.out))
          have HB3 := Lib.hid (HB2.out.trans (hf3.below (by omega)))
          clear PUT HO2 hX3 HX2 HB2 hO3 hf3 hw3 HX
          go_wp2_with fail
          go_roundw
          case rel => exact ⟨k + 1, ins ++ [⟨2, nt, st⟩], g', cap', by omega, by simp; omega, by go_num, by simp, hne', HGn, Lib.hid (by rw [thRow_snoc, List.length_append]; exact HO3.out), Lib.hid (by rw [encs_snoc1]; exact HW3.out), HB3, HX3⟩
          case measure => simp [intOf]; omega
    · obtain rfl : k = fl.length := by omega
      have hel : (encs ins).length ≤ 300 * ins.length := encs_len (fun t ht => (HPl.out t ht).2)
      clear HS HR HI1 hw1 HX hne
      go_wp2_with fail
      refine (wbytes_any _ _ _ _ HW.out).mono ?_
      rintro e w6 ⟨rfl, rfl⟩
      have HSS := Lib.hid (show (⟨(encs ins).toArray⟩ : ByteArray).data.toList = encs ins ++ [] by simp)
      have hsz : (⟨(encs ins).toArray⟩ : ByteArray).size ≤ 100000 := by
        have e : (⟨(encs ins).toArray⟩ : ByteArray).size = (encs ins).length := by simp [ByteArray.size]
        rw [e]; omega
      generalize (⟨(encs ins).toArray⟩ : ByteArray) = s at *
      go_wp2_with fail
      refine (read_post _ _).mono ?_
      rintro e w7 ⟨rb, rfl, hrb, hr, hb7⟩
      obtain ⟨hg2b, cs2, fz2, hk2⟩ := ownsRow_kind28 HO.out
      have hg2 := heap_lt hk2
      have HO7 := Lib.hid (ownsRow_heap HO.out (hb7.block g2 hg2))
      have HB7 := Lib.hid (HB.out.trans (hb7.mono HB.out.size))
      have hg2rb : g2 ≠ rb := by omega
      have hbrb : w.heap.size ≤ rb := Nat.le_trans HB.out.size hrb
      have HR7 : Hid (Rd w7 rb s (posM ins 0) (depM ins 0) 0) := Lib.hid (by simpa [posM, depM, dep, encs] using hr)
      clear hk2 hg2 hrb hr hb7 HO HB HW
      go_wp2_with fail
      go_loopw [39] (fun mv wy => ∃ m : Nat, m ≤ ins.length ∧ mv = .int .i64 m ∧ Hid (Rd wy rb s (posM ins m) (depM ins m) 0) ∧ Hid (Below w.heap.size w wy) ∧ Hid (wy.heap[g2]? = w7.heap[g2]?)) (fun mv _ => ins.length - (intOf mv).toNat)
      case atStart => exact ⟨0, by omega, rfl, HR7, HB7, Lib.hid rfl⟩
      case round =>
        obtain ⟨m, hm, rfl, HRd, HBy, HXy⟩ := hrel
        by_cases hcm : m < ins.length
        · obtain ⟨c0, c1, c2⟩ := ((ThRow.mk' HO7.out).kept HXy.out).cells m hcm
          have hkd := HPl.out _ (List.getElem_mem hcm)
          have hE : ∃ t, ins[m] = t := ⟨_, rfl⟩
          obtain ⟨⟨kt, nt, st⟩, hE⟩ := hE
          rw [hE] at c0 c1 c2 hkd
          have HE := Lib.hid hE
          clear hE
          simp only at c0 c1 c2
          obtain ⟨hk12, hn0, hn1, hst⟩ := hkd
          simp only at hk12 hn0 hn1 hst
          have hwy := (Below.refl wr.heap.size wr).alloc (Nat.le_refl _) (.cells #[.int .i64 kt, .int .i64 nt, .string st] 39)
          have HRa := Lib.hid (HRd.out.below hwy HRd.out.lt)
          have HBa := Lib.hid (HBy.out.trans (hwy.mono HBy.out.size))
          have HXa := Lib.hid ((heap_old (ownsRow_lt HO7.out HXy.out) (.cells #[.int .i64 kt, .int .i64 nt, .string st] 39)).trans HXy.out)
          have hbx : wr.heap.size ≠ rb := by have := HRd.out.lt; omega
          clear hwy
          by_cases hm2 : m < n2
          · obtain ⟨a, v, rfl, hab, hv⟩ := (HQ.out.below HBa.out) m hm2
            clear hab
            cases v
            · rcases hk12 with rfl | rfl
              · have RDI := Lib.hid (fun w (h : Rd w rb s (posM ins m) (depM ins m) 0) => rd_int (w := w) h HSS.out HPl.out.good hcm hsz HE.out)
                have q0 : (wr.alloc (.cells #[.int .i64 1, .int .i64 nt, .string st] 39)).cell? ⟨wr.heap.size, 0, none⟩ = some (.int .i64 1) := by simp [go_sem]
                have q1 : (wr.alloc (.cells #[.int .i64 1, .int .i64 nt, .string st] 39)).cell? ⟨wr.heap.size, 1, none⟩ = some (.int .i64 nt) := by simp [go_sem]
                have hlt : wr.heap.size < (wr.alloc (.cells #[.int .i64 1, .int .i64 nt, .string st] 39)).heap.size := by simp
                go_wp2_with fail
                generalize wr.alloc (.cells #[.int .i64 1, .int .i64 nt, .string st] 39) = W0 at *
                refine wp_region_held_drew (S := fun w' => w'.cell? ⟨wr.heap.size, 0, none⟩ = some (.int .i64 1) ∧ w'.cell? ⟨wr.heap.size, 1, none⟩ = some (.int .i64 nt)) (by kernel_rfl) (⟨q0, q1⟩) (fun hHeld => ?_)
                refine wpAnyH_take (i := 0) (oi := _) (v := ?_) rfl (by kernel_rfl) (by kernel_rfl) (by kernel_rfl) (fun _ _ _ h => h) (Or.inl ⟨by rfl, ?_⟩) (by assumption) ?_
                rotate_left
                · (intro w hSw; (try dsimp only at hSw); go_simp; try with_reducible rfl)
                try simp only [List.getElem_toArray, List.getElem_cons_zero, Act.put, List.setIfInBounds_toArray, List.set_cons_zero, List.set_cons_succ]
                refine wpAnyH_take (i := 1) (oi := _) (v := ?_) rfl (by kernel_rfl) (by kernel_rfl) (by kernel_rfl) (fun _ _ _ h => h) (Or.inl ⟨by rfl, ?_⟩) (by assumption) ?_
                rotate_left
                · (intro w hSw; (try dsimp only at hSw); go_simp; try with_reducible rfl)
                try simp only [List.getElem_toArray, List.getElem_cons_zero, List.getElem_cons_succ, Act.put, List.setIfInBounds_toArray, List.set_cons_zero, List.set_cons_succ]
                refine wpAnyH_take (i := 2) (oi := _) (v := ?_) rfl (by kernel_rfl) (by kernel_rfl) (by kernel_rfl) (fun _ _ _ h => h) (Or.inl ⟨by rfl, ?_⟩) (by assumption) ?_
                rotate_left
                · (intro w hSw; (try dsimp only at hSw); go_simp; try with_reducible rfl)
                try simp only [List.getElem_toArray, List.getElem_cons_zero, List.getElem_cons_succ, Act.put, List.setIfInBounds_toArray, List.set_cons_zero, List.set_cons_succ]
                refine wpAnyH_take (i := 3) (oi := _) (v := ?_) rfl (by kernel_rfl) (by kernel_rfl) (by kernel_rfl) (fun _ _ _ h => h) (Or.inl ⟨by rfl, ?_⟩) (by assumption) ?_
                rotate_left
                · (intro w hSw; (try dsimp only at hSw); go_simp; try with_reducible rfl)
                try simp only [List.getElem_toArray, List.getElem_cons_zero, List.getElem_cons_succ, Act.put, List.setIfInBounds_toArray, List.set_cons_zero, List.set_cons_succ]
                refine wpAnyH_take (i := 4) (oi := _) (v := ?_) rfl (by kernel_rfl) (by kernel_rfl) (by kernel_rfl) (fun _ _ _ h => h) (Or.inl ⟨by rfl, ?_⟩) (by assumption) ?_
                rotate_left
                · (intro w hSw; (try dsimp only at hSw); go_simp; try with_reducible rfl)
                try simp only [List.getElem_toArray, List.getElem_cons_zero, List.getElem_cons_succ, Act.put, List.setIfInBounds_toArray, List.set_cons_zero, List.set_cons_succ]
                refine wpAnyH_take (i := 6) (oi := _) (v := ?_) rfl (by kernel_rfl) (by kernel_rfl) (by kernel_rfl) (fun _ _ _ h => h) (Or.inl ⟨by rfl, ?_⟩) (by assumption) ?_
                rotate_left
                · (intro w hSw; (try dsimp only at hSw); go_simp; try with_reducible rfl)
                try simp only [List.getElem_toArray, List.getElem_cons_zero, List.getElem_cons_succ, Act.put, List.setIfInBounds_toArray, List.set_cons_zero, List.set_cons_succ]
                refine wpAnyH_take (i := 7) (oi := _) (v := ?_) rfl (by kernel_rfl) (by kernel_rfl) (by kernel_rfl) (fun _ _ _ h => h) (Or.inl ⟨by rfl, ?_⟩) (by assumption) ?_
                rotate_left
                · (intro w hSw; (try dsimp only at hSw); go_simp; try with_reducible rfl)
                try simp only [List.getElem_toArray, List.getElem_cons_zero, List.getElem_cons_succ, Act.put, List.setIfInBounds_toArray, List.set_cons_zero, List.set_cons_succ]
                refine wpAnyH_ready (rs := [5]) (by kernel_rfl) (by simp) ?_
                refine AllReadyH.cons (o := _) rfl (fun K hK => ?_) AllReadyH.nil
                go_simp
                refine (RDI.out _ HRa.out.drew).mono ?_
                rintro e w8 ⟨rfl, hr8, ho8⟩
                have p0 := (ho8.cell (p := ⟨wr.heap.size, 0, none⟩) (by simpa using hlt) hbx).trans hHeld.1
                have p1 := (ho8.cell (p := ⟨wr.heap.size, 1, none⟩) (by simpa using hlt) hbx).trans hHeld.2
                refine hK.out _ _ (⟨p0, p1⟩) (fun hHeld => ?_)
                clear hK K
                try simp only [List.getElem_toArray, List.getElem_cons_zero, List.getElem_cons_succ, Act.put, List.setIfInBounds_toArray, List.set_cons_zero, List.set_cons_succ]
                refine wpAnyH_take (i := 8) (oi := _) (v := ?_) rfl (by kernel_rfl) (by kernel_rfl) (by kernel_rfl) (fun _ _ _ h => h) (Or.inl ⟨by rfl, ?_⟩) (by assumption) ?_
                rotate_left
                · (intro w hSw; (try dsimp only at hSw); go_simp; try with_reducible rfl)
                try simp only [List.getElem_toArray, List.getElem_cons_zero, List.getElem_cons_succ, Act.put, List.setIfInBounds_toArray, List.set_cons_zero, List.set_cons_succ]
                refine wpAnyH_take (i := 9) (oi := _) (v := ?_) rfl (by kernel_rfl) (by kernel_rfl) (by kernel_rfl) (fun _ _ _ h => h) (Or.inl ⟨by rfl, ?_⟩) (by assumption) ?_
                rotate_left
                · (intro w hSw; (try dsimp only at hSw); go_simp; try with_reducible rfl)
                try simp only [List.getElem_toArray, List.getElem_cons_zero, List.getElem_cons_succ, Act.put, List.setIfInBounds_toArray, List.set_cons_zero, List.set_cons_succ]
                refine wpAnyH_take (i := 10) (oi := _) (v := ?_) rfl (by kernel_rfl) (by kernel_rfl) (by kernel_rfl) (fun _ _ _ h => h) (Or.inl ⟨by rfl, ?_⟩) (by assumption) ?_
                rotate_left
                · (intro w hSw; (try dsimp only at hSw); go_simp; try with_reducible rfl)
                try simp only [List.getElem_toArray, List.getElem_cons_zero, List.getElem_cons_succ, Act.put, List.setIfInBounds_toArray, List.set_cons_zero, List.set_cons_succ]
                refine wpAnyH_take (i := 11) (oi := _) (v := ?_) rfl (by kernel_rfl) (by kernel_rfl) (by kernel_rfl) (fun _ _ _ h => h) (Or.inl ⟨by rfl, ?_⟩) (by assumption) ?_
                rotate_left
                · (intro w hSw; (try dsimp only at hSw); go_simp; try with_reducible rfl)
                try simp only [List.getElem_toArray, List.getElem_cons_zero, List.getElem_cons_succ, Act.put, List.setIfInBounds_toArray, List.set_cons_zero, List.set_cons_succ]
                refine wpAnyH_take (i := 12) (oi := _) (v := ?_) rfl (by kernel_rfl) (by kernel_rfl) (by kernel_rfl) (fun _ _ _ h => h) (Or.inl ⟨by rfl, ?_⟩) (by assumption) ?_
                rotate_left
                · (intro w hSw; (try dsimp only at hSw); go_simp; try with_reducible rfl)
                try simp only [List.getElem_toArray, List.getElem_cons_zero, List.getElem_cons_succ, Act.put, List.setIfInBounds_toArray, List.set_cons_zero, List.set_cons_succ]
                refine wpAnyH_take (i := 13) (oi := _) (v := ?_) rfl (by kernel_rfl) (by kernel_rfl) (by kernel_rfl) (fun _ _ _ h => h) (Or.inl ⟨by rfl, ?_⟩) (by assumption) ?_
                rotate_left
                · (intro w hSw; (try dsimp only at hSw); go_simp; try with_reducible rfl)
                try simp only [List.getElem_toArray, List.getElem_cons_zero, List.getElem_cons_succ, Act.put, List.setIfInBounds_toArray, List.set_cons_zero, List.set_cons_succ]
                refine wpAnyH_take (i := 14) (oi := _) (v := ?_) rfl (by kernel_rfl) (by kernel_rfl) (by kernel_rfl) (fun _ _ _ h => h) (Or.inl ⟨by rfl, ?_⟩) (by assumption) ?_
                rotate_left
                · (intro w hSw; (try dsimp only at hSw); go_simp; try with_reducible rfl)
                try simp only [List.getElem_toArray, List.getElem_cons_zero, List.getElem_cons_succ, Act.put, List.setIfInBounds_toArray, List.set_cons_zero, List.set_cons_succ]
                refine wpAnyH_take (i := 15) (oi := _) (v := undef) rfl (by kernel_rfl) (by kernel_rfl) (by kernel_rfl) (fun _ _ _ h => h) (Or.inr ⟨by rfl, rfl⟩) (by assumption) ?_
                try simp only [List.getElem_toArray, List.getElem_cons_zero, List.getElem_cons_succ, Act.put, List.setIfInBounds_toArray, List.set_cons_zero, List.set_cons_succ]
                refine wpAnyH_take (i := 16) (oi := _) (v := undef) rfl (by kernel_rfl) (by kernel_rfl) (by kernel_rfl) (fun _ _ _ h => h) (Or.inr ⟨by rfl, rfl⟩) (by assumption) ?_
                try simp only [List.getElem_toArray, List.getElem_cons_zero, List.getElem_cons_succ, Act.put, List.setIfInBounds_toArray, List.set_cons_zero, List.set_cons_succ]
                refine wpAnyH_take (i := 17) (oi := _) (v := undef) rfl (by kernel_rfl) (by kernel_rfl) (by kernel_rfl) (fun _ _ _ h => h) (Or.inr ⟨by rfl, rfl⟩) (by assumption) ?_
                try simp only [List.getElem_toArray, List.getElem_cons_zero, List.getElem_cons_succ, Act.put, List.setIfInBounds_toArray, List.set_cons_zero, List.set_cons_succ]
                refine wpAnyH_take (i := 18) (oi := _) (v := undef) rfl (by kernel_rfl) (by kernel_rfl) (by kernel_rfl) (fun _ _ _ h => h) (Or.inr ⟨by rfl, rfl⟩) (by assumption) ?_
                try simp only [List.getElem_toArray, List.getElem_cons_zero, List.getElem_cons_succ, Act.put, List.setIfInBounds_toArray, List.set_cons_zero, List.set_cons_succ]
                refine wpAnyH_take (i := 19) (oi := _) (v := undef) rfl (by kernel_rfl) (by kernel_rfl) (by kernel_rfl) (fun _ _ _ h => h) (Or.inr ⟨by rfl, rfl⟩) (by assumption) ?_
                try simp only [List.getElem_toArray, List.getElem_cons_zero, List.getElem_cons_succ, Act.put, List.setIfInBounds_toArray, List.set_cons_zero, List.set_cons_succ]
                refine wpAnyH_take (i := 20) (oi := _) (v := ?_) rfl (by kernel_rfl) (by kernel_rfl) (by kernel_rfl) (fun _ _ _ h => h) (Or.inl ⟨by rfl, ?_⟩) (by assumption) ?_
                rotate_left
                · (intro w hSw; (try dsimp only at hSw); go_simp; try with_reducible rfl)
                try simp only [List.getElem_toArray, List.getElem_cons_zero, List.getElem_cons_succ, Act.put, List.setIfInBounds_toArray, List.set_cons_zero, List.set_cons_succ]
                refine wpAnyH_take (i := 21) (oi := _) (v := ?_) rfl (by kernel_rfl) (by kernel_rfl) (by kernel_rfl) (fun _ _ _ h => h) (Or.inl ⟨by rfl, ?_⟩) (by assumption) ?_
                rotate_left
                · (intro w hSw; (try dsimp only at hSw); go_simp; try with_reducible rfl)
                try simp only [List.getElem_toArray, List.getElem_cons_zero, List.getElem_cons_succ, Act.put, List.setIfInBounds_toArray, List.set_cons_zero, List.set_cons_succ]
                refine wpAnyH_done (by kernel_rfl) ?_ _
                have HR8 := Lib.hid hr8
                have HB8 := Lib.hid (HBa.out.drew.trans (ho8.below hbrb HBa.out.drew.size))
                have HX8 := Lib.hid ((ho8.block g2 (ownsRow_lt HO7.out HXa.out) hg2rb).trans HXa.out)
                clear hr8 ho8 p0 p1
                go_wp2_with fail
                go_roundw
                case rel => exact ⟨m + 1, by omega, by go_num, HR8, HB8, HX8⟩
                case measure => simp [intOf]; omega
              · have RDI := Lib.hid (fun w (h : Rd w rb s (posM ins m) (depM ins m) 0) => rd_text (w := w) h HSS.out HPl.out.good hcm hsz HE.out 200 (by omega))
                have q0 : (wr.alloc (.cells #[.int .i64 2, .int .i64 nt, .string st] 39)).cell? ⟨wr.heap.size, 0, none⟩ = some (.int .i64 2) := by simp [go_sem]
                have q1 : (wr.alloc (.cells #[.int .i64 2, .int .i64 nt, .string st] 39)).cell? ⟨wr.heap.size, 2, none⟩ = some (.string st) := by simp [go_sem]
                have hlt : wr.heap.size < (wr.alloc (.cells #[.int .i64 2, .int .i64 nt, .string st] 39)).heap.size := by simp
                go_wp2_with fail
                generalize wr.alloc (.cells #[.int .i64 2, .int .i64 nt, .string st] 39) = W0 at *
                refine wp_region_held_drew (S := fun w' => w'.cell? ⟨wr.heap.size, 0, none⟩ = some (.int .i64 2) ∧ w'.cell? ⟨wr.heap.size, 2, none⟩ = some (.string st)) (by kernel_rfl) (⟨q0, q1⟩) (fun hHeld => ?_)
                refine wpAnyH_take (i := 0) (oi := _) (v := ?_) rfl (by kernel_rfl) (by kernel_rfl) (by kernel_rfl) (fun _ _ _ h => h) (Or.inl ⟨by rfl, ?_⟩) (by assumption) ?_
                rotate_left
                · (intro w hSw; (try dsimp only at hSw); go_simp; try with_reducible rfl)
                try simp only [List.getElem_toArray, List.getElem_cons_zero, Act.put, List.setIfInBounds_toArray, List.set_cons_zero, List.set_cons_succ]
                refine wpAnyH_take (i := 1) (oi := _) (v := ?_) rfl (by kernel_rfl) (by kernel_rfl) (by kernel_rfl) (fun _ _ _ h => h) (Or.inl ⟨by rfl, ?_⟩) (by assumption) ?_
                rotate_left
                · (intro w hSw; (try dsimp only at hSw); go_simp; try with_reducible rfl)
                try simp only [List.getElem_toArray, List.getElem_cons_zero, List.getElem_cons_succ, Act.put, List.setIfInBounds_toArray, List.set_cons_zero, List.set_cons_succ]
                refine wpAnyH_take (i := 2) (oi := _) (v := ?_) rfl (by kernel_rfl) (by kernel_rfl) (by kernel_rfl) (fun _ _ _ h => h) (Or.inl ⟨by rfl, ?_⟩) (by assumption) ?_
                rotate_left
                · (intro w hSw; (try dsimp only at hSw); go_simp; try with_reducible rfl)
                try simp only [List.getElem_toArray, List.getElem_cons_zero, List.getElem_cons_succ, Act.put, List.setIfInBounds_toArray, List.set_cons_zero, List.set_cons_succ]
                refine wpAnyH_take (i := 3) (oi := _) (v := ?_) rfl (by kernel_rfl) (by kernel_rfl) (by kernel_rfl) (fun _ _ _ h => h) (Or.inl ⟨by rfl, ?_⟩) (by assumption) ?_
                rotate_left
                · (intro w hSw; (try dsimp only at hSw); go_simp; try with_reducible rfl)
                try simp only [List.getElem_toArray, List.getElem_cons_zero, List.getElem_cons_succ, Act.put, List.setIfInBounds_toArray, List.set_cons_zero, List.set_cons_succ]
                refine wpAnyH_take (i := 4) (oi := _) (v := undef) rfl (by kernel_rfl) (by kernel_rfl) (by kernel_rfl) (fun _ _ _ h => h) (Or.inr ⟨by rfl, rfl⟩) (by assumption) ?_
                try simp only [List.getElem_toArray, List.getElem_cons_zero, List.getElem_cons_succ, Act.put, List.setIfInBounds_toArray, List.set_cons_zero, List.set_cons_succ]
                refine wpAnyH_take (i := 5) (oi := _) (v := undef) rfl (by kernel_rfl) (by kernel_rfl) (by kernel_rfl) (fun _ _ _ h => h) (Or.inr ⟨by rfl, rfl⟩) (by assumption) ?_
                try simp only [List.getElem_toArray, List.getElem_cons_zero, List.getElem_cons_succ, Act.put, List.setIfInBounds_toArray, List.set_cons_zero, List.set_cons_succ]
                refine wpAnyH_take (i := 6) (oi := _) (v := undef) rfl (by kernel_rfl) (by kernel_rfl) (by kernel_rfl) (fun _ _ _ h => h) (Or.inr ⟨by rfl, rfl⟩) (by assumption) ?_
                try simp only [List.getElem_toArray, List.getElem_cons_zero, List.getElem_cons_succ, Act.put, List.setIfInBounds_toArray, List.set_cons_zero, List.set_cons_succ]
                refine wpAnyH_take (i := 7) (oi := _) (v := undef) rfl (by kernel_rfl) (by kernel_rfl) (by kernel_rfl) (fun _ _ _ h => h) (Or.inr ⟨by rfl, rfl⟩) (by assumption) ?_
                try simp only [List.getElem_toArray, List.getElem_cons_zero, List.getElem_cons_succ, Act.put, List.setIfInBounds_toArray, List.set_cons_zero, List.set_cons_succ]
                refine wpAnyH_take (i := 8) (oi := _) (v := undef) rfl (by kernel_rfl) (by kernel_rfl) (by kernel_rfl) (fun _ _ _ h => h) (Or.inr ⟨by rfl, rfl⟩) (by assumption) ?_
                try simp only [List.getElem_toArray, List.getElem_cons_zero, List.getElem_cons_succ, Act.put, List.setIfInBounds_toArray, List.set_cons_zero, List.set_cons_succ]
                refine wpAnyH_take (i := 9) (oi := _) (v := ?_) rfl (by kernel_rfl) (by kernel_rfl) (by kernel_rfl) (fun _ _ _ h => h) (Or.inl ⟨by rfl, ?_⟩) (by assumption) ?_
                rotate_left
                · (intro w hSw; (try dsimp only at hSw); go_simp; try with_reducible rfl)
                try simp only [List.getElem_toArray, List.getElem_cons_zero, List.getElem_cons_succ, Act.put, List.setIfInBounds_toArray, List.set_cons_zero, List.set_cons_succ]
                refine wpAnyH_take (i := 10) (oi := _) (v := ?_) rfl (by kernel_rfl) (by kernel_rfl) (by kernel_rfl) (fun _ _ _ h => h) (Or.inl ⟨by rfl, ?_⟩) (by assumption) ?_
                rotate_left
                · (intro w hSw; (try dsimp only at hSw); go_simp; try with_reducible rfl)
                try simp only [List.getElem_toArray, List.getElem_cons_zero, List.getElem_cons_succ, Act.put, List.setIfInBounds_toArray, List.set_cons_zero, List.set_cons_succ]
                refine wpAnyH_take (i := 11) (oi := _) (v := ?_) rfl (by kernel_rfl) (by kernel_rfl) (by kernel_rfl) (fun _ _ _ h => h) (Or.inl ⟨by rfl, ?_⟩) (by assumption) ?_
                rotate_left
                · (intro w hSw; (try dsimp only at hSw); go_simp; try with_reducible rfl)
                try simp only [List.getElem_toArray, List.getElem_cons_zero, List.getElem_cons_succ, Act.put, List.setIfInBounds_toArray, List.set_cons_zero, List.set_cons_succ]
                refine wpAnyH_take (i := 12) (oi := _) (v := ?_) rfl (by kernel_rfl) (by kernel_rfl) (by kernel_rfl) (fun _ _ _ h => h) (Or.inl ⟨by rfl, ?_⟩) (by assumption) ?_
                rotate_left
                · (intro w hSw; (try dsimp only at hSw); go_simp; try with_reducible rfl)
                try simp only [List.getElem_toArray, List.getElem_cons_zero, List.getElem_cons_succ, Act.put, List.setIfInBounds_toArray, List.set_cons_zero, List.set_cons_succ]
                refine wpAnyH_take (i := 13) (oi := _) (v := ?_) rfl (by kernel_rfl) (by kernel_rfl) (by kernel_rfl) (fun _ _ _ h => h) (Or.inl ⟨by rfl, ?_⟩) (by assumption) ?_
                rotate_left
                · (intro w hSw; (try dsimp only at hSw); go_simp; try with_reducible rfl)
                try simp only [List.getElem_toArray, List.getElem_cons_zero, List.getElem_cons_succ, Act.put, List.setIfInBounds_toArray, List.set_cons_zero, List.set_cons_succ]
                refine wpAnyH_take (i := 14) (oi := _) (v := ?_) rfl (by kernel_rfl) (by kernel_rfl) (by kernel_rfl) (fun _ _ _ h => h) (Or.inl ⟨by rfl, ?_⟩) (by assumption) ?_
                rotate_left
                · (intro w hSw; (try dsimp only at hSw); go_simp; try with_reducible rfl)
                try simp only [List.getElem_toArray, List.getElem_cons_zero, List.getElem_cons_succ, Act.put, List.setIfInBounds_toArray, List.set_cons_zero, List.set_cons_succ]
                refine wpAnyH_take (i := 15) (oi := _) (v := ?_) rfl (by kernel_rfl) (by kernel_rfl) (by kernel_rfl) (fun _ _ _ h => h) (Or.inl ⟨by rfl, ?_⟩) (by assumption) ?_
                rotate_left
                · (intro w hSw; (try dsimp only at hSw); go_simp; try with_reducible rfl)
                try simp only [List.getElem_toArray, List.getElem_cons_zero, List.getElem_cons_succ, Act.put, List.setIfInBounds_toArray, List.set_cons_zero, List.set_cons_succ]
                refine wpAnyH_take (i := 17) (oi := _) (v := ?_) rfl (by kernel_rfl) (by kernel_rfl) (by kernel_rfl) (fun _ _ _ h => h) (Or.inl ⟨by rfl, ?_⟩) (by assumption) ?_
                rotate_left
                · (intro w hSw; (try dsimp only at hSw); go_simp; try with_reducible rfl)
                try simp only [List.getElem_toArray, List.getElem_cons_zero, List.getElem_cons_succ, Act.put, List.setIfInBounds_toArray, List.set_cons_zero, List.set_cons_succ]
                refine wpAnyH_take (i := 18) (oi := _) (v := ?_) rfl (by kernel_rfl) (by kernel_rfl) (by kernel_rfl) (fun _ _ _ h => h) (Or.inl ⟨by rfl, ?_⟩) (by assumption) ?_
                rotate_left
                · (intro w hSw; (try dsimp only at hSw); go_simp; try with_reducible rfl)
                try simp only [List.getElem_toArray, List.getElem_cons_zero, List.getElem_cons_succ, Act.put, List.setIfInBounds_toArray, List.set_cons_zero, List.set_cons_succ]
                refine wpAnyH_ready (rs := [16]) (by kernel_rfl) (by simp) ?_
                refine AllReadyH.cons (o := _) rfl (fun K hK => ?_) AllReadyH.nil
                go_simp
                refine (RDI.out _ HRa.out.drew).mono ?_
                rintro e w8 ⟨rfl, hr8, ho8⟩
                have p0 := (ho8.cell (p := ⟨wr.heap.size, 0, none⟩) (by simpa using hlt) hbx).trans hHeld.1
                have p1 := (ho8.cell (p := ⟨wr.heap.size, 2, none⟩) (by simpa using hlt) hbx).trans hHeld.2
                refine hK.out _ _ (⟨p0, p1⟩) (fun hHeld => ?_)
                clear hK K
                try simp only [List.getElem_toArray, List.getElem_cons_zero, List.getElem_cons_succ, Act.put, List.setIfInBounds_toArray, List.set_cons_zero, List.set_cons_succ]
                refine wpAnyH_take (i := 19) (oi := _) (v := ?_) rfl (by kernel_rfl) (by kernel_rfl) (by kernel_rfl) (fun _ _ _ h => h) (Or.inl ⟨by rfl, ?_⟩) (by assumption) ?_
                rotate_left
                · (intro w hSw; (try dsimp only at hSw); go_simp; try with_reducible rfl)
                try simp only [List.getElem_toArray, List.getElem_cons_zero, List.getElem_cons_succ, Act.put, List.setIfInBounds_toArray, List.set_cons_zero, List.set_cons_succ]
                refine wpAnyH_take (i := 20) (oi := _) (v := ?_) rfl (by kernel_rfl) (by kernel_rfl) (by kernel_rfl) (fun _ _ _ h => h) (Or.inl ⟨by rfl, ?_⟩) (by assumption) ?_
                rotate_left
                · (intro w hSw; (try dsimp only at hSw); go_simp; try with_reducible rfl)
                try simp only [List.getElem_toArray, List.getElem_cons_zero, List.getElem_cons_succ, Act.put, List.setIfInBounds_toArray, List.set_cons_zero, List.set_cons_succ]
                refine wpAnyH_take (i := 21) (oi := _) (v := ?_) rfl (by kernel_rfl) (by kernel_rfl) (by kernel_rfl) (fun _ _ _ h => h) (Or.inl ⟨by rfl, ?_⟩) (by assumption) ?_
                rotate_left
                · (intro w hSw; (try dsimp only at hSw); go_simp; try with_reducible rfl)
                try simp only [List.getElem_toArray, List.getElem_cons_zero, List.getElem_cons_succ, Act.put, List.setIfInBounds_toArray, List.set_cons_zero, List.set_cons_succ]
                refine wpAnyH_done (by kernel_rfl) ?_ _
                have HR8 := Lib.hid hr8
                have HB8 := Lib.hid (HBa.out.drew.trans (ho8.below hbrb HBa.out.drew.size))
                have HX8 := Lib.hid ((ho8.block g2 (ownsRow_lt HO7.out HXa.out) hg2rb).trans HXa.out)
                clear hr8 ho8 p0 p1
                go_wp2_with fail
                go_roundw
                case rel => exact ⟨m + 1, by omega, by go_num, HR8, HB8, HX8⟩
                case measure => simp [intOf]; omega
            · have RD := Lib.hid (fun w (h : Rd w rb s (posM ins m) (depM ins m) 0) => rd_skip (w := w) h HSS.out HPl.out hcm hsz)
              go_wp2_with fail
              refine (RD.out _ HRa.out).mono ?_
              rintro e w8 ⟨rfl, hr8, ho8⟩
              have HR8 := Lib.hid hr8
              have HB8 := Lib.hid (HBa.out.trans (ho8.below hbrb HBa.out.size))
              have HX8 := Lib.hid ((ho8.block g2 (ownsRow_lt HO7.out HXa.out) hg2rb).trans HXa.out)
              clear hr8 ho8
              go_wp2_with fail
              go_roundw
              case rel => exact ⟨m + 1, by omega, by go_num, HR8, HB8, HX8⟩
              case measure => simp [intOf]; omega
          · rcases hk12 with rfl | rfl
            · have RDI := Lib.hid (fun w (h : Rd w rb s (posM ins m) (depM ins m) 0) => rd_int (w := w) h HSS.out HPl.out.good hcm hsz HE.out)
              have q0 : (wr.alloc (.cells #[.int .i64 1, .int .i64 nt, .string st] 39)).cell? ⟨wr.heap.size, 0, none⟩ = some (.int .i64 1) := by simp [go_sem]
              have q1 : (wr.alloc (.cells #[.int .i64 1, .int .i64 nt, .string st] 39)).cell? ⟨wr.heap.size, 1, none⟩ = some (.int .i64 nt) := by simp [go_sem]
              have hlt : wr.heap.size < (wr.alloc (.cells #[.int .i64 1, .int .i64 nt, .string st] 39)).heap.size := by simp
              go_wp2_with fail
              generalize wr.alloc (.cells #[.int .i64 1, .int .i64 nt, .string st] 39) = W0 at *
              refine wp_region_held_drew (S := fun w' => w'.cell? ⟨wr.heap.size, 0, none⟩ = some (.int .i64 1) ∧ w'.cell? ⟨wr.heap.size, 1, none⟩ = some (.int .i64 nt)) (by kernel_rfl) (⟨q0, q1⟩) (fun hHeld => ?_)
              refine wpAnyH_take (i := 0) (oi := _) (v := ?_) rfl (by kernel_rfl) (by kernel_rfl) (by kernel_rfl) (fun _ _ _ h => h) (Or.inl ⟨by rfl, ?_⟩) (by assumption) ?_
              rotate_left
              · (intro w hSw; (try dsimp only at hSw); go_simp; try with_reducible rfl)
              try simp only [List.getElem_toArray, List.getElem_cons_zero, Act.put, List.setIfInBounds_toArray, List.set_cons_zero, List.set_cons_succ]
              refine wpAnyH_take (i := 1) (oi := _) (v := ?_) rfl (by kernel_rfl) (by kernel_rfl) (by kernel_rfl) (fun _ _ _ h => h) (Or.inl ⟨by rfl, ?_⟩) (by assumption) ?_
              rotate_left
              · (intro w hSw; (try dsimp only at hSw); go_simp; try with_reducible rfl)
              try simp only [List.getElem_toArray, List.getElem_cons_zero, List.getElem_cons_succ, Act.put, List.setIfInBounds_toArray, List.set_cons_zero, List.set_cons_succ]
              refine wpAnyH_take (i := 2) (oi := _) (v := ?_) rfl (by kernel_rfl) (by kernel_rfl) (by kernel_rfl) (fun _ _ _ h => h) (Or.inl ⟨by rfl, ?_⟩) (by assumption) ?_
              rotate_left
              · (intro w hSw; (try dsimp only at hSw); go_simp; try with_reducible rfl)
              try simp only [List.getElem_toArray, List.getElem_cons_zero, List.getElem_cons_succ, Act.put, List.setIfInBounds_toArray, List.set_cons_zero, List.set_cons_succ]
              refine wpAnyH_take (i := 3) (oi := _) (v := ?_) rfl (by kernel_rfl) (by kernel_rfl) (by kernel_rfl) (fun _ _ _ h => h) (Or.inl ⟨by rfl, ?_⟩) (by assumption) ?_
              rotate_left
              · (intro w hSw; (try dsimp only at hSw); go_simp; try with_reducible rfl)
              try simp only [List.getElem_toArray, List.getElem_cons_zero, List.getElem_cons_succ, Act.put, List.setIfInBounds_toArray, List.set_cons_zero, List.set_cons_succ]
              refine wpAnyH_take (i := 4) (oi := _) (v := ?_) rfl (by kernel_rfl) (by kernel_rfl) (by kernel_rfl) (fun _ _ _ h => h) (Or.inl ⟨by rfl, ?_⟩) (by assumption) ?_
              rotate_left
              · (intro w hSw; (try dsimp only at hSw); go_simp; try with_reducible rfl)
              try simp only [List.getElem_toArray, List.getElem_cons_zero, List.getElem_cons_succ, Act.put, List.setIfInBounds_toArray, List.set_cons_zero, List.set_cons_succ]
              refine wpAnyH_take (i := 6) (oi := _) (v := ?_) rfl (by kernel_rfl) (by kernel_rfl) (by kernel_rfl) (fun _ _ _ h => h) (Or.inl ⟨by rfl, ?_⟩) (by assumption) ?_
              rotate_left
              · (intro w hSw; (try dsimp only at hSw); go_simp; try with_reducible rfl)
              try simp only [List.getElem_toArray, List.getElem_cons_zero, List.getElem_cons_succ, Act.put, List.setIfInBounds_toArray, List.set_cons_zero, List.set_cons_succ]
              refine wpAnyH_take (i := 7) (oi := _) (v := ?_) rfl (by kernel_rfl) (by kernel_rfl) (by kernel_rfl) (fun _ _ _ h => h) (Or.inl ⟨by rfl, ?_⟩) (by assumption) ?_
              rotate_left
              · (intro w hSw; (try dsimp only at hSw); go_simp; try with_reducible rfl)
              try simp only [List.getElem_toArray, List.getElem_cons_zero, List.getElem_cons_succ, Act.put, List.setIfInBounds_toArray, List.set_cons_zero, List.set_cons_succ]
              refine wpAnyH_ready (rs := [5]) (by kernel_rfl) (by simp) ?_
              refine AllReadyH.cons (o := _) rfl (fun K hK => ?_) AllReadyH.nil
              go_simp
              refine (RDI.out _ HRa.out.drew).mono ?_
              rintro e w8 ⟨rfl, hr8, ho8⟩
              have p0 := (ho8.cell (p := ⟨wr.heap.size, 0, none⟩) (by simpa using hlt) hbx).trans hHeld.1
              have p1 := (ho8.cell (p := ⟨wr.heap.size, 1, none⟩) (by simpa using hlt) hbx).trans hHeld.2
              refine hK.out _ _ (⟨p0, p1⟩) (fun hHeld => ?_)
              clear hK K
              try simp only [List.getElem_toArray, List.getElem_cons_zero, List.getElem_cons_succ, Act.put, List.setIfInBounds_toArray, List.set_cons_zero, List.set_cons_succ]
              refine wpAnyH_take (i := 8) (oi := _) (v := ?_) rfl (by kernel_rfl) (by kernel_rfl) (by kernel_rfl) (fun _ _ _ h => h) (Or.inl ⟨by rfl, ?_⟩) (by assumption) ?_
              rotate_left
              · (intro w hSw; (try dsimp only at hSw); go_simp; try with_reducible rfl)
              try simp only [List.getElem_toArray, List.getElem_cons_zero, List.getElem_cons_succ, Act.put, List.setIfInBounds_toArray, List.set_cons_zero, List.set_cons_succ]
              refine wpAnyH_take (i := 9) (oi := _) (v := ?_) rfl (by kernel_rfl) (by kernel_rfl) (by kernel_rfl) (fun _ _ _ h => h) (Or.inl ⟨by rfl, ?_⟩) (by assumption) ?_
              rotate_left
              · (intro w hSw; (try dsimp only at hSw); go_simp; try with_reducible rfl)
              try simp only [List.getElem_toArray, List.getElem_cons_zero, List.getElem_cons_succ, Act.put, List.setIfInBounds_toArray, List.set_cons_zero, List.set_cons_succ]
              refine wpAnyH_take (i := 10) (oi := _) (v := ?_) rfl (by kernel_rfl) (by kernel_rfl) (by kernel_rfl) (fun _ _ _ h => h) (Or.inl ⟨by rfl, ?_⟩) (by assumption) ?_
              rotate_left
              · (intro w hSw; (try dsimp only at hSw); go_simp; try with_reducible rfl)
              try simp only [List.getElem_toArray, List.getElem_cons_zero, List.getElem_cons_succ, Act.put, List.setIfInBounds_toArray, List.set_cons_zero, List.set_cons_succ]
              refine wpAnyH_take (i := 11) (oi := _) (v := ?_) rfl (by kernel_rfl) (by kernel_rfl) (by kernel_rfl) (fun _ _ _ h => h) (Or.inl ⟨by rfl, ?_⟩) (by assumption) ?_
              rotate_left
              · (intro w hSw; (try dsimp only at hSw); go_simp; try with_reducible rfl)
              try simp only [List.getElem_toArray, List.getElem_cons_zero, List.getElem_cons_succ, Act.put, List.setIfInBounds_toArray, List.set_cons_zero, List.set_cons_succ]
              refine wpAnyH_take (i := 12) (oi := _) (v := ?_) rfl (by kernel_rfl) (by kernel_rfl) (by kernel_rfl) (fun _ _ _ h => h) (Or.inl ⟨by rfl, ?_⟩) (by assumption) ?_
              rotate_left
              · (intro w hSw; (try dsimp only at hSw); go_simp; try with_reducible rfl)
              try simp only [List.getElem_toArray, List.getElem_cons_zero, List.getElem_cons_succ, Act.put, List.setIfInBounds_toArray, List.set_cons_zero, List.set_cons_succ]
              refine wpAnyH_take (i := 13) (oi := _) (v := ?_) rfl (by kernel_rfl) (by kernel_rfl) (by kernel_rfl) (fun _ _ _ h => h) (Or.inl ⟨by rfl, ?_⟩) (by assumption) ?_
              rotate_left
              · (intro w hSw; (try dsimp only at hSw); go_simp; try with_reducible rfl)
              try simp only [List.getElem_toArray, List.getElem_cons_zero, List.getElem_cons_succ, Act.put, List.setIfInBounds_toArray, List.set_cons_zero, List.set_cons_succ]
              refine wpAnyH_take (i := 14) (oi := _) (v := ?_) rfl (by kernel_rfl) (by kernel_rfl) (by kernel_rfl) (fun _ _ _ h => h) (Or.inl ⟨by rfl, ?_⟩) (by assumption) ?_
              rotate_left
              · (intro w hSw; (try dsimp only at hSw); go_simp; try with_reducible rfl)
              try simp only [List.getElem_toArray, List.getElem_cons_zero, List.getElem_cons_succ, Act.put, List.setIfInBounds_toArray, List.set_cons_zero, List.set_cons_succ]
              refine wpAnyH_take (i := 15) (oi := _) (v := undef) rfl (by kernel_rfl) (by kernel_rfl) (by kernel_rfl) (fun _ _ _ h => h) (Or.inr ⟨by rfl, rfl⟩) (by assumption) ?_
              try simp only [List.getElem_toArray, List.getElem_cons_zero, List.getElem_cons_succ, Act.put, List.setIfInBounds_toArray, List.set_cons_zero, List.set_cons_succ]
              refine wpAnyH_take (i := 16) (oi := _) (v := undef) rfl (by kernel_rfl) (by kernel_rfl) (by kernel_rfl) (fun _ _ _ h => h) (Or.inr ⟨by rfl, rfl⟩) (by assumption) ?_
              try simp only [List.getElem_toArray, List.getElem_cons_zero, List.getElem_cons_succ, Act.put, List.setIfInBounds_toArray, List.set_cons_zero, List.set_cons_succ]
              refine wpAnyH_take (i := 17) (oi := _) (v := undef) rfl (by kernel_rfl) (by kernel_rfl) (by kernel_rfl) (fun _ _ _ h => h) (Or.inr ⟨by rfl, rfl⟩) (by assumption) ?_
              try simp only [List.getElem_toArray, List.getElem_cons_zero, List.getElem_cons_succ, Act.put, List.setIfInBounds_toArray, List.set_cons_zero, List.set_cons_succ]
              refine wpAnyH_take (i := 18) (oi := _) (v := undef) rfl (by kernel_rfl) (by kernel_rfl) (by kernel_rfl) (fun _ _ _ h => h) (Or.inr ⟨by rfl, rfl⟩) (by assumption) ?_
              try simp only [List.getElem_toArray, List.getElem_cons_zero, List.getElem_cons_succ, Act.put, List.setIfInBounds_toArray, List.set_cons_zero, List.set_cons_succ]
              refine wpAnyH_take (i := 19) (oi := _) (v := undef) rfl (by kernel_rfl) (by kernel_rfl) (by kernel_rfl) (fun _ _ _ h => h) (Or.inr ⟨by rfl, rfl⟩) (by assumption) ?_
              try simp only [List.getElem_toArray, List.getElem_cons_zero, List.getElem_cons_succ, Act.put, List.setIfInBounds_toArray, List.set_cons_zero, List.set_cons_succ]
              refine wpAnyH_take (i := 20) (oi := _) (v := ?_) rfl (by kernel_rfl) (by kernel_rfl) (by kernel_rfl) (fun _ _ _ h => h) (Or.inl ⟨by rfl, ?_⟩) (by assumption) ?_
              rotate_left
              · (intro w hSw; (try dsimp only at hSw); go_simp; try with_reducible rfl)
              try simp only [List.getElem_toArray, List.getElem_cons_zero, List.getElem_cons_succ, Act.put, List.setIfInBounds_toArray, List.set_cons_zero, List.set_cons_succ]
              refine wpAnyH_take (i := 21) (oi := _) (v := ?_) rfl (by kernel_rfl) (by kernel_rfl) (by kernel_rfl) (fun _ _ _ h => h) (Or.inl ⟨by rfl, ?_⟩) (by assumption) ?_
              rotate_left
              · (intro w hSw; (try dsimp only at hSw); go_simp; try with_reducible rfl)
              try simp only [List.getElem_toArray, List.getElem_cons_zero, List.getElem_cons_succ, Act.put, List.setIfInBounds_toArray, List.set_cons_zero, List.set_cons_succ]
              refine wpAnyH_done (by kernel_rfl) ?_ _
              have HR8 := Lib.hid hr8
              have HB8 := Lib.hid (HBa.out.drew.trans (ho8.below hbrb HBa.out.drew.size))
              have HX8 := Lib.hid ((ho8.block g2 (ownsRow_lt HO7.out HXa.out) hg2rb).trans HXa.out)
              clear hr8 ho8 p0 p1
              go_wp2_with fail
              go_roundw
              case rel => exact ⟨m + 1, by omega, by go_num, HR8, HB8, HX8⟩
              case measure => simp [intOf]; omega
            · have RDI := Lib.hid (fun w (h : Rd w rb s (posM ins m) (depM ins m) 0) => rd_text (w := w) h HSS.out HPl.out.good hcm hsz HE.out 200 (by omega))
              have q0 : (wr.alloc (.cells #[.int .i64 2, .int .i64 nt, .string st] 39)).cell? ⟨wr.heap.size, 0, none⟩ = some (.int .i64 2) := by simp [go_sem]
              have q1 : (wr.alloc (.cells #[.int .i64 2, .int .i64 nt, .string st] 39)).cell? ⟨wr.heap.size, 2, none⟩ = some (.string st) := by simp [go_sem]
              have hlt : wr.heap.size < (wr.alloc (.cells #[.int .i64 2, .int .i64 nt, .string st] 39)).heap.size := by simp
              go_wp2_with fail
              generalize wr.alloc (.cells #[.int .i64 2, .int .i64 nt, .string st] 39) = W0 at *
              refine wp_region_held_drew (S := fun w' => w'.cell? ⟨wr.heap.size, 0, none⟩ = some (.int .i64 2) ∧ w'.cell? ⟨wr.heap.size, 2, none⟩ = some (.string st)) (by kernel_rfl) (⟨q0, q1⟩) (fun hHeld => ?_)
              refine wpAnyH_take (i := 0) (oi := _) (v := ?_) rfl (by kernel_rfl) (by kernel_rfl) (by kernel_rfl) (fun _ _ _ h => h) (Or.inl ⟨by rfl, ?_⟩) (by assumption) ?_
              rotate_left
              · (intro w hSw; (try dsimp only at hSw); go_simp; try with_reducible rfl)
              try simp only [List.getElem_toArray, List.getElem_cons_zero, Act.put, List.setIfInBounds_toArray, List.set_cons_zero, List.set_cons_succ]
              refine wpAnyH_take (i := 1) (oi := _) (v := ?_) rfl (by kernel_rfl) (by kernel_rfl) (by kernel_rfl) (fun _ _ _ h => h) (Or.inl ⟨by rfl, ?_⟩) (by assumption) ?_
              rotate_left
              · (intro w hSw; (try dsimp only at hSw); go_simp; try with_reducible rfl)
              try simp only [List.getElem_toArray, List.getElem_cons_zero, List.getElem_cons_succ, Act.put, List.setIfInBounds_toArray, List.set_cons_zero, List.set_cons_succ]
              refine wpAnyH_take (i := 2) (oi := _) (v := ?_) rfl (by kernel_rfl) (by kernel_rfl) (by kernel_rfl) (fun _ _ _ h => h) (Or.inl ⟨by rfl, ?_⟩) (by assumption) ?_
              rotate_left
              · (intro w hSw; (try dsimp only at hSw); go_simp; try with_reducible rfl)
              try simp only [List.getElem_toArray, List.getElem_cons_zero, List.getElem_cons_succ, Act.put, List.setIfInBounds_toArray, List.set_cons_zero, List.set_cons_succ]
              refine wpAnyH_take (i := 3) (oi := _) (v := ?_) rfl (by kernel_rfl) (by kernel_rfl) (by kernel_rfl) (fun _ _ _ h => h) (Or.inl ⟨by rfl, ?_⟩) (by assumption) ?_
              rotate_left
              · (intro w hSw; (try dsimp only at hSw); go_simp; try with_reducible rfl)
              try simp only [List.getElem_toArray, List.getElem_cons_zero, List.getElem_cons_succ, Act.put, List.setIfInBounds_toArray, List.set_cons_zero, List.set_cons_succ]
              refine wpAnyH_take (i := 4) (oi := _) (v := undef) rfl (by kernel_rfl) (by kernel_rfl) (by kernel_rfl) (fun _ _ _ h => h) (Or.inr ⟨by rfl, rfl⟩) (by assumption) ?_
              try simp only [List.getElem_toArray, List.getElem_cons_zero, List.getElem_cons_succ, Act.put, List.setIfInBounds_toArray, List.set_cons_zero, List.set_cons_succ]
              refine wpAnyH_take (i := 5) (oi := _) (v := undef) rfl (by kernel_rfl) (by kernel_rfl) (by kernel_rfl) (fun _ _ _ h => h) (Or.inr ⟨by rfl, rfl⟩) (by assumption) ?_
              try simp only [List.getElem_toArray, List.getElem_cons_zero, List.getElem_cons_succ, Act.put, List.setIfInBounds_toArray, List.set_cons_zero, List.set_cons_succ]
              refine wpAnyH_take (i := 6) (oi := _) (v := undef) rfl (by kernel_rfl) (by kernel_rfl) (by kernel_rfl) (fun _ _ _ h => h) (Or.inr ⟨by rfl, rfl⟩) (by assumption) ?_
              try simp only [List.getElem_toArray, List.getElem_cons_zero, List.getElem_cons_succ, Act.put, List.setIfInBounds_toArray, List.set_cons_zero, List.set_cons_succ]
              refine wpAnyH_take (i := 7) (oi := _) (v := undef) rfl (by kernel_rfl) (by kernel_rfl) (by kernel_rfl) (fun _ _ _ h => h) (Or.inr ⟨by rfl, rfl⟩) (by assumption) ?_
              try simp only [List.getElem_toArray, List.getElem_cons_zero, List.getElem_cons_succ, Act.put, List.setIfInBounds_toArray, List.set_cons_zero, List.set_cons_succ]
              refine wpAnyH_take (i := 8) (oi := _) (v := undef) rfl (by kernel_rfl) (by kernel_rfl) (by kernel_rfl) (fun _ _ _ h => h) (Or.inr ⟨by rfl, rfl⟩) (by assumption) ?_
              try simp only [List.getElem_toArray, List.getElem_cons_zero, List.getElem_cons_succ, Act.put, List.setIfInBounds_toArray, List.set_cons_zero, List.set_cons_succ]
              refine wpAnyH_take (i := 9) (oi := _) (v := ?_) rfl (by kernel_rfl) (by kernel_rfl) (by kernel_rfl) (fun _ _ _ h => h) (Or.inl ⟨by rfl, ?_⟩) (by assumption) ?_
              rotate_left
              · (intro w hSw; (try dsimp only at hSw); go_simp; try with_reducible rfl)
              try simp only [List.getElem_toArray, List.getElem_cons_zero, List.getElem_cons_succ, Act.put, List.setIfInBounds_toArray, List.set_cons_zero, List.set_cons_succ]
              refine wpAnyH_take (i := 10) (oi := _) (v := ?_) rfl (by kernel_rfl) (by kernel_rfl) (by kernel_rfl) (fun _ _ _ h => h) (Or.inl ⟨by rfl, ?_⟩) (by assumption) ?_
              rotate_left
              · (intro w hSw; (try dsimp only at hSw); go_simp; try with_reducible rfl)
              try simp only [List.getElem_toArray, List.getElem_cons_zero, List.getElem_cons_succ, Act.put, List.setIfInBounds_toArray, List.set_cons_zero, List.set_cons_succ]
              refine wpAnyH_take (i := 11) (oi := _) (v := ?_) rfl (by kernel_rfl) (by kernel_rfl) (by kernel_rfl) (fun _ _ _ h => h) (Or.inl ⟨by rfl, ?_⟩) (by assumption) ?_
              rotate_left
              · (intro w hSw; (try dsimp only at hSw); go_simp; try with_reducible rfl)
              try simp only [List.getElem_toArray, List.getElem_cons_zero, List.getElem_cons_succ, Act.put, List.setIfInBounds_toArray, List.set_cons_zero, List.set_cons_succ]
              refine wpAnyH_take (i := 12) (oi := _) (v := ?_) rfl (by kernel_rfl) (by kernel_rfl) (by kernel_rfl) (fun _ _ _ h => h) (Or.inl ⟨by rfl, ?_⟩) (by assumption) ?_
              rotate_left
              · (intro w hSw; (try dsimp only at hSw); go_simp; try with_reducible rfl)
              try simp only [List.getElem_toArray, List.getElem_cons_zero, List.getElem_cons_succ, Act.put, List.setIfInBounds_toArray, List.set_cons_zero, List.set_cons_succ]
              refine wpAnyH_take (i := 13) (oi := _) (v := ?_) rfl (by kernel_rfl) (by kernel_rfl) (by kernel_rfl) (fun _ _ _ h => h) (Or.inl ⟨by rfl, ?_⟩) (by assumption) ?_
              rotate_left
              · (intro w hSw; (try dsimp only at hSw); go_simp; try with_reducible rfl)
              try simp only [List.getElem_toArray, List.getElem_cons_zero, List.getElem_cons_succ, Act.put, List.setIfInBounds_toArray, List.set_cons_zero, List.set_cons_succ]
              refine wpAnyH_take (i := 14) (oi := _) (v := ?_) rfl (by kernel_rfl) (by kernel_rfl) (by kernel_rfl) (fun _ _ _ h => h) (Or.inl ⟨by rfl, ?_⟩) (by assumption) ?_
              rotate_left
              · (intro w hSw; (try dsimp only at hSw); go_simp; try with_reducible rfl)
              try simp only [List.getElem_toArray, List.getElem_cons_zero, List.getElem_cons_succ, Act.put, List.setIfInBounds_toArray, List.set_cons_zero, List.set_cons_succ]
              refine wpAnyH_take (i := 15) (oi := _) (v := ?_) rfl (by kernel_rfl) (by kernel_rfl) (by kernel_rfl) (fun _ _ _ h => h) (Or.inl ⟨by rfl, ?_⟩) (by assumption) ?_
              rotate_left
              · (intro w hSw; (try dsimp only at hSw); go_simp; try with_reducible rfl)
              try simp only [List.getElem_toArray, List.getElem_cons_zero, List.getElem_cons_succ, Act.put, List.setIfInBounds_toArray, List.set_cons_zero, List.set_cons_succ]
              refine wpAnyH_take (i := 17) (oi := _) (v := ?_) rfl (by kernel_rfl) (by kernel_rfl) (by kernel_rfl) (fun _ _ _ h => h) (Or.inl ⟨by rfl, ?_⟩) (by assumption) ?_
              rotate_left
              · (intro w hSw; (try dsimp only at hSw); go_simp; try with_reducible rfl)
              try simp only [List.getElem_toArray, List.getElem_cons_zero, List.getElem_cons_succ, Act.put, List.setIfInBounds_toArray, List.set_cons_zero, List.set_cons_succ]
              refine wpAnyH_take (i := 18) (oi := _) (v := ?_) rfl (by kernel_rfl) (by kernel_rfl) (by kernel_rfl) (fun _ _ _ h => h) (Or.inl ⟨by rfl, ?_⟩) (by assumption) ?_
              rotate_left
              · (intro w hSw; (try dsimp only at hSw); go_simp; try with_reducible rfl)
              try simp only [List.getElem_toArray, List.getElem_cons_zero, List.getElem_cons_succ, Act.put, List.setIfInBounds_toArray, List.set_cons_zero, List.set_cons_succ]
              refine wpAnyH_ready (rs := [16]) (by kernel_rfl) (by simp) ?_
              refine AllReadyH.cons (o := _) rfl (fun K hK => ?_) AllReadyH.nil
              go_simp
              refine (RDI.out _ HRa.out.drew).mono ?_
              rintro e w8 ⟨rfl, hr8, ho8⟩
              have p0 := (ho8.cell (p := ⟨wr.heap.size, 0, none⟩) (by simpa using hlt) hbx).trans hHeld.1
              have p1 := (ho8.cell (p := ⟨wr.heap.size, 2, none⟩) (by simpa using hlt) hbx).trans hHeld.2
              refine hK.out _ _ (⟨p0, p1⟩) (fun hHeld => ?_)
              clear hK K
              try simp only [List.getElem_toArray, List.getElem_cons_zero, List.getElem_cons_succ, Act.put, List.setIfInBounds_toArray, List.set_cons_zero, List.set_cons_succ]
              refine wpAnyH_take (i := 19) (oi := _) (v := ?_) rfl (by kernel_rfl) (by kernel_rfl) (by kernel_rfl) (fun _ _ _ h => h) (Or.inl ⟨by rfl, ?_⟩) (by assumption) ?_
              rotate_left
              · (intro w hSw; (try dsimp only at hSw); go_simp; try with_reducible rfl)
              try simp only [List.getElem_toArray, List.getElem_cons_zero, List.getElem_cons_succ, Act.put, List.setIfInBounds_toArray, List.set_cons_zero, List.set_cons_succ]
              refine wpAnyH_take (i := 20) (oi := _) (v := ?_) rfl (by kernel_rfl) (by kernel_rfl) (by kernel_rfl) (fun _ _ _ h => h) (Or.inl ⟨by rfl, ?_⟩) (by assumption) ?_
              rotate_left
              · (intro w hSw; (try dsimp only at hSw); go_simp; try with_reducible rfl)
              try simp only [List.getElem_toArray, List.getElem_cons_zero, List.getElem_cons_succ, Act.put, List.setIfInBounds_toArray, List.set_cons_zero, List.set_cons_succ]
              refine wpAnyH_take (i := 21) (oi := _) (v := ?_) rfl (by kernel_rfl) (by kernel_rfl) (by kernel_rfl) (fun _ _ _ h => h) (Or.inl ⟨by rfl, ?_⟩) (by assumption) ?_
              rotate_left
              · (intro w hSw; (try dsimp only at hSw); go_simp; try with_reducible rfl)
              try simp only [List.getElem_toArray, List.getElem_cons_zero, List.getElem_cons_succ, Act.put, List.setIfInBounds_toArray, List.set_cons_zero, List.set_cons_succ]
              refine wpAnyH_done (by kernel_rfl) ?_ _
              have HR8 := Lib.hid hr8
              have HB8 := Lib.hid (HBa.out.drew.trans (ho8.below hbrb HBa.out.drew.size))
              have HX8 := Lib.hid ((ho8.block g2 (ownsRow_lt HO7.out HXa.out) hg2rb).trans HXa.out)
              clear hr8 ho8 p0 p1
              go_wp2_with fail
              go_roundw
              case rel => exact ⟨m + 1, by omega, by go_num, HR8, HB8, HX8⟩
              case measure => simp [intOf]; omega
        · obtain rfl : m = ins.length := by omega
          have hR8 : Rd wr rb s s.size 0 0 := by
            have h := HRd.out
            have e1 : posM ins ins.length = s.size := by unfold posM; rw [List.take_length]; have := congrArg List.length HSS.out; simp at this; omega
            have e2 : depM ins ins.length = 0 := by unfold depM; rw [List.take_length, HPl.out.dep]; rfl
            rwa [e1, e2] at h
          have DN := Lib.hid (fun w (h : Rd w rb s s.size 0 0) => done_any rb s _ _ 0 w h (Nat.le_refl _) (by unfold maxLen; omega))
          have e1 : doneE s s.size 0 0 = 0 := by unfold doneE; rw [if_neg (by omega), if_neg (by omega)]
          rw [e1] at DN
          clear e1 HRd HO7 HR7 HXy
          go_wp2_with fail
          refine (awake_any _ (tab_at HTAB.out HBy.out HBy.out.size)).mono ?_
          rintro e w9 ⟨rfl, hb9⟩
          have hr9 := hR8.below hb9 hR8.lt
          have hB9 := HBy.out.trans (hb9.mono HBy.out.size)
          clear hb9 hR8
          go_wp2_with fail
          refine (DN.out _ hr9).mono ?_
          rintro e w10 ⟨rfl, hr10, ho10⟩
          have hB10 := hB9.trans (ho10.below hbrb hB9.size)
          clear hr9 ho10 hB9
          go_wp2_with fail
          go_ret
          exact ⟨rfl, hB10⟩
end Go.Proofs.YtjcnlkbmigemhaaDoor
