/-
  CONTRACT of the law's own whole: numbers and texts, each in a list of its own.
-/
import Derived.Test.YtjcnlkbmigemhaaDoorPartsM
namespace Go.Proofs.YtjcnlkbmigemhaaDoor
open Go.RowKit

set_option maxHeartbeats 2000000 in
theorem whole_any (p : Option Addr) (cap : Nat) (l : List Th) (w : World) (hA : ThAt w p l) (hl : l.length ≤ maxLen) (hok : ∀ t ∈ l, t.ok) (htab : Lib.TabBelow Tryd.prog w.heap.size w "internal/strconv.uint64pow10" .u64 Lib.pow10Tab) :
    Calls Tryd.prog 19 #[.slice p l.length cap] w fun e w' => e = .returned (.string (ba (wpc (fewL l 20)).flatten)) ∧ Below w.heap.size w w' := by
  have hba : Below w.heap.size w (w.alloc (.cells #[.slice none 0 0] 35)) := (Below.refl _ _).alloc (Nat.le_refl _) _
  have FEW := Lib.hid (few_any p cap l 20 (w.alloc (.cells #[.slice none 0 0] 35)) (hA.below hba) hl (by omega) (fun t ht => (hok t ht).2.2))
  have hw0 := Wr.new w
  have hsm := few_small (n := 20) hok
  have hle := few_length l 20
  have HTAB := Lib.hid htab
  generalize fewL l 20 = fl at *
  clear htab hA hl hok
  have HS := Lib.hid hsm
  have HL := Lib.hid (wpc_len hsm)
  clear hsm
  go_enter Tryd.func19, Tryd.ntmps19
  go_wp2_with fail
  refine FEW.out.mono ?_
  rintro e w1 ⟨g, c, rfl, hrow, hb1⟩
  have hw1 := hw0.kept hb1
  have hB1 := hba.trans (hb1.mono hba.size)
  have HR := Lib.hid hrow
  have hge : w.heap.size + 1 ≤ g := by have := hrow.ge; simpa using this
  clear FEW hw0 hba hb1 hrow
  go_wp2_with fail
  go_loopw [9] (fun iv wr => ∃ (k : Nat), k ≤ fl.length ∧ iv = .int .i64 k ∧ Hid (Wr wr w.heap.size (w.heap.size + 1) (wpc (fl.take k)).flatten) ∧ Hid (WFr w.heap.size (w.heap.size + 1) w1 wr)) (fun iv _ => fl.length - (intOf iv).toNat)
  case atStart => exact ⟨0, by omega, rfl, Lib.hid hw1, Lib.hid (WFr.refl _ _ _)⟩
  case round =>
    obtain ⟨k, hk, rfl, HW, HF⟩ := hrel
    have hkl := HL.out k
    by_cases hc : k < fl.length
    · have hx : wr.heap[g]? = w1.heap[g]? := by
        obtain ⟨cs, fz, hcs⟩ := HR.out.kind
        rw [hcs]
        exact HF.out.others g _ hcs (by intro h; injection h; omega) (fun c fz h => by cases h)
      obtain ⟨hc0, hc1, hc2⟩ := (HR.out.kept hx).cells k hc
      have hsm := HS.out _ (List.getElem_mem hc)
      have HNY := Lib.hid (wpc_snoc_yes hc)
      have HNN := Lib.hid (wpc_snoc_no hc)
      generalize fl[k] = t at hc0 hc1 hc2 hsm HNY HNN
      obtain ⟨kt, nt, st⟩ := t
      simp only at hc0 hc1 hc2
      have hez := enc_len hsm
      obtain ⟨hn0, hn1, hsz⟩ := hsm
      simp only at hn0 hn1 hsz
      have hF1 : Below w.heap.size w (wr.alloc (.cells #[.int .i64 kt, .int .i64 nt, .string st] 39)) := (hB1.trans (HF.out.below (by omega))).alloc (by have := (hB1.trans (HF.out.below (by omega))).size; omega) _
      have hWa := HW.out.kept ((Below.refl wr.heap.size wr).alloc (Nat.le_refl _) (.cells #[.int .i64 kt, .int .i64 nt, .string st] 39))
      have HWa := Lib.hid hWa
      have HF1 := Lib.hid hF1
      have HFa := Lib.hid (HF.out.trans (WFr.ofBelow ((Below.refl wr.heap.size wr).alloc (Nat.le_refl _) (.cells #[.int .i64 kt, .int .i64 nt, .string st] 39)) HW.out.le.2))
      clear hx hF1 hWa
      by_cases hp : kt = 1 ∨ kt = 2
      · have HN := Lib.hid (HNY.out hp)
        have q0 : (wr.alloc (.cells #[.int .i64 kt, .int .i64 nt, .string st] 39)).cell? ⟨wr.heap.size, 0, none⟩ = some (.int .i64 kt) := by simp [go_sem]
        have q1 : (wr.alloc (.cells #[.int .i64 kt, .int .i64 nt, .string st] 39)).cell? ⟨wr.heap.size, 1, none⟩ = some (.int .i64 nt) := by simp [go_sem]
        have q2 : (wr.alloc (.cells #[.int .i64 kt, .int .i64 nt, .string st] 39)).cell? ⟨wr.heap.size, 2, none⟩ = some (.string st) := by simp [go_sem]
        have WO := Lib.hid (wopen_any w.heap.size (w.heap.size + 1) _ _ HWa.out (by omega))
        clear HNY HNN
        rcases hp with rfl | rfl
        · go_wp2_with fail
          refine WO.out.mono ?_
          rintro e w2 ⟨rfl, hw2, hf2⟩
          have g0 := (hf2.other (by have := HW.out.le; omega) 0).trans q0
          have g1 := (hf2.other (by have := HW.out.le; omega) 1).trans q1
          have g2 := (hf2.other (by have := HW.out.le; omega) 2).trans q2
          have HF2 := Lib.hid (HFa.out.trans hf2)
          have HW2 := Lib.hid hw2
          have hB2 := HF1.out.trans (hf2.below (by omega))
          have PUT := Lib.hid (put_any w.heap.size (w.heap.size + 1) _ ⟨1, nt, st⟩ w2 hw2 (by simp only [List.length_append, List.length_singleton]; omega) hsz hn0 hn1 (HTAB.out.on hB2))
          clear hw2 hf2 hB2 WO q0 q1 q2
          go_wp2_with fail
          refine PUT.out.mono ?_
          rintro e w3 ⟨rfl, hw3, hf3⟩
          have HF3 := Lib.hid (HF2.out.trans hf3)
          have WC := Lib.hid (wclose_any w.heap.size (w.heap.size + 1) _ _ hw3 (by simp only [List.length_append, List.length_singleton]; omega))
          clear hw3 hf3 PUT HF2 g0 g1 g2
          go_wp2_with fail
          refine WC.out.mono ?_
          rintro e w4 ⟨rfl, hw4, hf4⟩
          have HW4 := Lib.hid hw4
          have HF4 := Lib.hid (HF3.out.trans hf4)
          clear hw4 hf4 WC HF3
          go_wp2_with fail
          go_roundw
          case rel => exact ⟨k + 1, by omega, by go_num, Lib.hid (by rw [HN.out]; simpa using HW4.out), HF4⟩
          case measure => simp [intOf]; omega
        · go_wp2_with fail
          refine WO.out.mono ?_
          rintro e w2 ⟨rfl, hw2, hf2⟩
          have g0 := (hf2.other (by have := HW.out.le; omega) 0).trans q0
          have g1 := (hf2.other (by have := HW.out.le; omega) 1).trans q1
          have g2 := (hf2.other (by have := HW.out.le; omega) 2).trans q2
          have HF2 := Lib.hid (HFa.out.trans hf2)
          have HW2 := Lib.hid hw2
          have hB2 := HF1.out.trans (hf2.below (by omega))
          have PUT := Lib.hid (put_any w.heap.size (w.heap.size + 1) _ ⟨2, nt, st⟩ w2 hw2 (by simp only [List.length_append, List.length_singleton]; omega) hsz hn0 hn1 (HTAB.out.on hB2))
          clear hw2 hf2 hB2 WO q0 q1 q2
          go_wp2_with fail
          refine PUT.out.mono ?_
          rintro e w3 ⟨rfl, hw3, hf3⟩
          have HF3 := Lib.hid (HF2.out.trans hf3)
          have WC := Lib.hid (wclose_any w.heap.size (w.heap.size + 1) _ _ hw3 (by simp only [List.length_append, List.length_singleton]; omega))
          clear hw3 hf3 PUT HF2 g0 g1 g2
          go_wp2_with fail
          refine WC.out.mono ?_
          rintro e w4 ⟨rfl, hw4, hf4⟩
          have HW4 := Lib.hid hw4
          have HF4 := Lib.hid (HF3.out.trans hf4)
          clear hw4 hf4 WC HF3
          go_wp2_with fail
          go_roundw
          case rel => exact ⟨k + 1, by omega, by go_num, Lib.hid (by rw [HN.out]; simpa using HW4.out), HF4⟩
          case measure => simp [intOf]; omega
      · have HN := Lib.hid (HNN.out hp)
        have b1 : (kt == 1) = false := by simpa using fun e => hp (Or.inl e)
        have b2 : (kt == 2) = false := by simpa using fun e => hp (Or.inr e)
        have b3 : decide (kt = 1) = false := by simpa using fun e => hp (Or.inl e)
        have b4 : decide (kt = 2) = false := by simpa using fun e => hp (Or.inr e)
        clear HNY HNN hp
        go_wp2_with fail
        go_roundw
        case rel => exact ⟨k + 1, by omega, by go_num, Lib.hid (by rw [HN.out]; exact HWa.out), HFa⟩
        case measure => simp [intOf]; omega
    · obtain rfl : k = fl.length := by omega
      have hB2 := hB1.trans (HF.out.below (by omega))
      have HE := Lib.hid (show (wpc (fl.take fl.length)).flatten = (wpc fl).flatten by rw [List.take_length])
      clear HR HL HS
      go_wp2_with fail
      refine (wbytes_any _ _ _ _ HW.out).mono ?_
      rintro e w4 ⟨rfl, rfl⟩
      rw [HE.out]
      go_wp2_with fail
      go_ret
      exact ⟨rfl, hB2⟩
end Go.Proofs.YtjcnlkbmigemhaaDoor
