/-
  THE WALK of the law InputFields: whatever the text and the numbers, it returns true and writes to nothing that was there.
-/
import Derived.Test.YtllbnbnpcogckaaGreatDoorInM2
import Derived.Deep.QuietTactic
import Derived.BigQuiet
namespace Go.Proofs.YtllbnbnpcogckaaGreatDoor
open Go.RowKit

def t7 : Ce := ⟨1, 7000000, ⟨#[]⟩⟩
theorem t7_ctx : (ctx t7).length = 1 := by decide +kernel
theorem t7_ok : okc t7 := ⟨(fun _ => by unfold t7 OkN; simp), by decide +kernel⟩
/-- A record lies here yet; nothing that was there at first has turned. -/
def FdH (W : World) (b : Nat) (T : ByteArray) (l : List Ce) (w : World) : Prop := (∃ v, Rec w b T l v) ∧ Below W.heap.size W w
theorem FdH.next {W w w1 : World} {b : Nat} {T : ByteArray} {l : List Ce} (h : FdH W b T l w) (hb : Below w.heap.size w w1) : FdH W b T l w1 := by
  obtain ⟨⟨v, h1⟩, h2⟩ := h
  exact ⟨⟨v, h1.next hb⟩, h2.trans (hb.mono h2.size)⟩
def FdS (W : World) (b : Nat) (T : ByteArray) (l : List Ce) (cb : Nat) (w : World) : Prop :=
  w.cell? ⟨cb, 0, none⟩ = some (.int .i64 1) ∧ w.cell? ⟨cb, 1, none⟩ = some (.int .i64 7000000) ∧ w.cell? ⟨cb, 2, none⟩ = some (.string ⟨#[]⟩) ∧ FdH W b T l w
theorem keepF {W w w1 : World} {b cb : Nat} {T : ByteArray} {l : List Ce} (h : w.cell? ⟨cb, 0, none⟩ = some (.int .i64 1) ∧ w.cell? ⟨cb, 1, none⟩ = some (.int .i64 7000000) ∧ w.cell? ⟨cb, 2, none⟩ = some (.string ⟨#[]⟩) ∧ FdH W b T l w) (hb : Below w.heap.size w w1) :
    w1.cell? ⟨cb, 0, none⟩ = some (.int .i64 1) ∧ w1.cell? ⟨cb, 1, none⟩ = some (.int .i64 7000000) ∧ w1.cell? ⟨cb, 2, none⟩ = some (.string ⟨#[]⟩) ∧ FdH W b T l w1 := by
  have k : ∀ {c o : Nat} {x : Value}, w.cell? ⟨c, o, none⟩ = some x → w1.cell? ⟨c, o, none⟩ = some x := fun h => (hb.cell (p := ⟨_, _, none⟩) (World.block_lt_of_cell? _ _ h)).trans h
  exact ⟨k h.1, k h.2.1, k h.2.2.1, h.2.2.2.next hb⟩
theorem drawF {W w : World} {b cb : Nat} {T : ByteArray} {l : List Ce} (h : w.cell? ⟨cb, 0, none⟩ = some (.int .i64 1) ∧ w.cell? ⟨cb, 1, none⟩ = some (.int .i64 7000000) ∧ w.cell? ⟨cb, 2, none⟩ = some (.string ⟨#[]⟩) ∧ FdH W b T l w) :
    w.drew.cell? ⟨cb, 0, none⟩ = some (.int .i64 1) ∧ w.drew.cell? ⟨cb, 1, none⟩ = some (.int .i64 7000000) ∧ w.drew.cell? ⟨cb, 2, none⟩ = some (.string ⟨#[]⟩) ∧ FdH W b T l w.drew :=
  ⟨h.1, h.2.1, h.2.2.1, h.2.2.2.next ((Below.refl _ _).drew)⟩
theorem giF {W w : World} {b cb : Nat} {T : ByteArray} {l : List Ce} (G : Gi W) (h : w.cell? ⟨cb, 0, none⟩ = some (.int .i64 1) ∧ w.cell? ⟨cb, 1, none⟩ = some (.int .i64 7000000) ∧ w.cell? ⟨cb, 2, none⟩ = some (.string ⟨#[]⟩) ∧ FdH W b T l w) : Gi w := G.next h.2.2.2.2
theorem belowF {W w : World} {b cb : Nat} {T : ByteArray} {l : List Ce} (h : w.cell? ⟨cb, 0, none⟩ = some (.int .i64 1) ∧ w.cell? ⟨cb, 1, none⟩ = some (.int .i64 7000000) ∧ w.cell? ⟨cb, 2, none⟩ = some (.string ⟨#[]⟩) ∧ FdH W b T l w) : Below W.heap.size W w := h.2.2.2.2
theorem recF {W w : World} {b cb : Nat} {T : ByteArray} {l : List Ce} (h : w.cell? ⟨cb, 0, none⟩ = some (.int .i64 1) ∧ w.cell? ⟨cb, 1, none⟩ = some (.int .i64 7000000) ∧ w.cell? ⟨cb, 2, none⟩ = some (.string ⟨#[]⟩) ∧ FdH W b T l w) : ∃ v, Rec w b T l v := h.2.2.2.1
theorem bcount {w : World} {b : Nat} {T : ByteArray} {l : List Ce} (m : Nat) (hm : l.length = m) (h : ∃ v, Rec w b T l v) :
    Calls Tryz.prog 14 #[.pointer (some ⟨b, 0, none⟩)] w fun e w' => e = .returned (.int .i64 (m : Int)) ∧ Below w.heap.size w w' := by
  obtain ⟨v, h⟩ := h
  rw [← hm]
  exact count_any h
set_option maxHeartbeats 8000000 in
set_option maxRecDepth 100000 in
theorem fields_in (s0 s T1 T2 : ByteArray) (n j m : Nat) (L0 L1 L2 : List Ce) (w : World) (HG : Hid (Gi w)) (hn : n ≤ 100) (hj : j + 1 ≤ 500) (hm : m = max (j + 1) n) (hL1 : L1.length = n) (hL2 : L2.length = m)
    (AW : Hid (∀ W, Gi W → Calls Tryz.prog 10 #[] W fun e w' => e = .returned (.bool true) ∧ Below W.heap.size W w'))
    (C1 : Hid (∀ W, Calls Tryz.prog 8 #[.string s0, .int .i64 60] W fun e w' => e = .returned (.string s) ∧ W = w'))
    (CL : Hid (∀ W b x y, W.heap[b]? = some (.cells #[x, y] 35 (0, 0)) → Gi W → Calls Tryz.prog 12 #[.pointer (some ⟨b, 0, none⟩), .string s, .string ⟨#[32]⟩] W (LdPost b s L0 W)))
    (CZ : Hid (∀ W b v, Rec W b s L0 v → Gi W → Calls Tryz.prog 13 #[.pointer (some ⟨b, 0, none⟩), .int .i64 (n : Int), .string ⟨#[32]⟩] W (LdPost b T1 L1 W)))
    (CI : Hid (∀ W, Calls Tryz.prog 16 #[.int .i64 7] W fun e w' => e = .returned (.agg #[.int .i64 1, .int .i64 7000000, .string ⟨#[]⟩]) ∧ Below W.heap.size W w'))
    (CS : Hid (∀ W b v, Rec W b T1 L1 v → Gi W → Calls Tryz.prog 15 #[.pointer (some ⟨b, 0, none⟩), .int .i64 ((j : Int) + 1), .agg #[.int .i64 1, .int .i64 7000000, .string ⟨#[]⟩], .string ⟨#[32]⟩, .string ⟨#[32]⟩] W (LdPost b T2 L2 W)))
    (CG : Hid (∀ W b v, Rec W b T2 L2 v → Calls Tryz.prog 17 #[.pointer (some ⟨b, 0, none⟩), .int .i64 ((j : Int) + 1)] W fun e w' => e = .returned (.tuple #[.agg #[.int .i64 1, .int .i64 7000000, .string ⟨#[]⟩], .int .i64 0]) ∧ Below W.heap.size W w')) :
    Calls Tryz.prog 5 #[.string s0, .int .i64 (n : Int), .int .i64 ((j : Int) + 1)] w fun e w' => e = .returned (.bool true) ∧ Below w.heap.size w w' := by
  have g1 : ¬ (n : Int) < 0 := by omega
  have g2 : ¬ (100 : Int) < (n : Int) := by omega
  have g3 : ¬ (j : Int) + 1 < 1 := by omega
  have g4 : ¬ (500 : Int) < (j : Int) + 1 := by omega
  have hmx : max (n : Int) ((j : Int) + 1) = (m : Int) := by omega
  have B1 := Lib.hid fun W b => rget_bad b 501 15 (.inl ⟨by omega, rfl⟩) W
  have B2 := Lib.hid fun W b => rget_bad b (-1) 16 (.inr ⟨by omega, rfl⟩) W
  have B3 := Lib.hid fun W b => resize_big b 501 (by omega) ⟨#[32]⟩ W
  have B4 : Hid (∀ W b, Calls Tryz.prog 15 #[.pointer (some ⟨b, 0, none⟩), .int .i64 501, .agg #[.int .i64 1, .int .i64 7000000, .string ⟨#[]⟩], .string ⟨#[32]⟩, .string ⟨#[32]⟩] W fun e w' => e = .returned (.int .i64 15) ∧ Below W.heap.size W w') := Lib.hid fun W b => rset_big b 501 (by omega) t7 ⟨#[32]⟩ ⟨#[32]⟩ W
  have B5 := Lib.hid fun (W : World) (b : Nat) (h : ∃ v, Rec W b T1 L1 v) => bcount n hL1 h
  have B6 := Lib.hid fun (W : World) (b : Nat) (h : ∃ v, Rec W b T2 L2 v) => bcount m hL2 h
  clear hm hL1 hL2 hn hj
  go_enter Tryz.func5, Tryz.ntmps5
  go_wp2_with fail
  refine (C1.out _).mono ?_
  rintro e w1 ⟨rfl, rfl⟩
  have hnew : (w.alloc (.cells #[.string ⟨#[]⟩, .slice none 0 0] 35)).heap[w.heap.size]? = some (.cells #[.string ⟨#[]⟩, .slice none 0 0] 35 (0, 0)) := by
    show (w.heap.push _)[w.heap.size]? = _
    exact Array.getElem?_push_size
  have HNEW := Lib.hid hnew
  have HB1 := Lib.hid (show Below w.heap.size w (w.alloc (.cells #[.string ⟨#[]⟩, .slice none 0 0] 35)) from (Below.refl _ _).alloc (Nat.le_refl _) _)
  clear hnew C1
  go_wp2_with fail
  refine (CL.out _ _ _ _ HNEW.out (HG.out.next HB1.out)).mono ?_
  rintro e w2 ⟨rfl, v2, hr2, -, ho2⟩
  have HR2 := Lib.hid hr2
  have HB2 := Lib.hid (HB1.out.trans (ho2.below (B := w.heap.size) (Nat.le_refl _) (by simp)))
  clear hr2 ho2 HNEW HB1 CL
  go_wp2_with fail
  refine (CZ.out _ _ _ HR2.out (HG.out.next HB2.out)).mono ?_
  rintro e w3 ⟨rfl, v3, hr3, -, ho3⟩
  have HR3 := Lib.hid hr3
  have HB3 := Lib.hid (HB2.out.trans (ho3.below (B := w.heap.size) (Nat.le_refl _) HB2.out.size))
  clear hr3 ho3 HR2 HB2 CZ
  go_wp2_with fail
  refine (B5.out _ _ ⟨_, HR3.out⟩).mono ?_
  rintro e w4 ⟨rfl, hb4⟩
  have HR4 := Lib.hid (HR3.out.next hb4)
  have HB4 := Lib.hid (HB3.out.trans (hb4.mono HB3.out.size))
  clear hb4 HR3 HB3 B5
  go_wp2_with fail
  refine (CI.out _).mono ?_
  rintro e w5 ⟨rfl, hb5⟩
  have HR5 := Lib.hid (HR4.out.next hb5)
  have HB5 := Lib.hid (HB4.out.trans (hb5.mono HB4.out.size))
  clear hb5 HR4 HB4
  go_wp2_with fail
  refine (CS.out _ _ _ HR5.out (HG.out.next HB5.out)).mono ?_
  rintro e w6 ⟨rfl, v6, hr6, -, ho6⟩
  have HR6 := Lib.hid hr6
  have HB6 := Lib.hid (HB5.out.trans (ho6.below (B := w.heap.size) (Nat.le_refl _) HB5.out.size))
  clear hr6 ho6 HR5 HB5 CS
  go_wp2_with fail
  refine (B6.out _ _ ⟨_, HR6.out⟩).mono ?_
  rintro e w7 ⟨rfl, hb7⟩
  have HR7 := Lib.hid (HR6.out.next hb7)
  have HB7 := Lib.hid (HB6.out.trans (hb7.mono HB6.out.size))
  clear hb7 HR6 HB6
  go_wp2_with fail
  refine (CG.out _ _ _ HR7.out).mono ?_
  rintro e w8 ⟨rfl, hb8⟩
  have hba : Below w8.heap.size w8 (w8.alloc (.cells #[.int .i64 1, .int .i64 7000000, .string ⟨#[]⟩] 42)) := (Below.refl _ _).alloc (Nat.le_refl _) _
  have hF : (w8.alloc (.cells #[.int .i64 1, .int .i64 7000000, .string ⟨#[]⟩] 42)).cell? ⟨w8.heap.size, 0, none⟩ = some (.int .i64 1) ∧ (w8.alloc (.cells #[.int .i64 1, .int .i64 7000000, .string ⟨#[]⟩] 42)).cell? ⟨w8.heap.size, 1, none⟩ = some (.int .i64 7000000) ∧ (w8.alloc (.cells #[.int .i64 1, .int .i64 7000000, .string ⟨#[]⟩] 42)).cell? ⟨w8.heap.size, 2, none⟩ = some (.string ⟨#[]⟩) ∧ FdH w w.heap.size T2 L2 (w8.alloc (.cells #[.int .i64 1, .int .i64 7000000, .string ⟨#[]⟩] 42)) :=
    ⟨by simp [go_sem], by simp [go_sem], by simp [go_sem], ⟨_, (HR7.out.next hb8).next hba⟩, (HB7.out.trans (hb8.mono HB7.out.size)).trans (hba.mono (by have := HB7.out.size; have := hb8.size; omega))⟩
  have HF := Lib.hid hF
  clear hb8 hba hF HR7 HB7 CG
  go_wp2_with fail
  generalize w8.alloc (.cells #[.int .i64 1, .int .i64 7000000, .string ⟨#[]⟩] 42) = w9 at *
  generalize w8.heap.size = cb at *
  refine (B1.out _ _).mono ?_
  rintro e w10 ⟨rfl, hb10⟩
  have HF2 := Lib.hid (keepF HF.out hb10)
  clear hb10 HF B1
  go_wp2_with fail
  refine (B2.out _ _).mono ?_
  rintro e w11 ⟨rfl, hb11⟩
  have HF3 := Lib.hid (keepF HF2.out (below_new hb11))
  clear hb11 HF2 B2
  have hF5 := keepF HF3.out (show Below w11.heap.size w11 (w11.alloc (.cells #[.int .i64 0, .int .i64 0, .string ⟨#[]⟩] 42)) from (Below.refl _ _).alloc (Nat.le_refl _) _)
  go_wp2_with fail
  clear HF3
  generalize w11.alloc (.cells #[.int .i64 0, .int .i64 0, .string ⟨#[]⟩] 42) = w12 at *
  generalize w11.heap.size = xb at *
  go_region_held3 (fun w' => w'.cell? ⟨cb, 0, none⟩ = some (.int .i64 1) ∧ w'.cell? ⟨cb, 1, none⟩ = some (.int .i64 7000000) ∧ w'.cell? ⟨cb, 2, none⟩ = some (.string ⟨#[]⟩) ∧ FdH w w.heap.size T2 L2 w') (first | assumption | exact drawF (by assumption) | go_keep) (first
    | ((with_reducible refine (AW.out _ (giF HG.out (by assumption))).mono ?_); rintro e w8 ⟨rfl, hb8⟩; have k8 := keepF (by assumption) hb8)
    | ((with_reducible refine (CI.out _).mono ?_); rintro e w8 ⟨rfl, hb8⟩; have k8 := keepF (by assumption) hb8)
    | ((with_reducible refine (B3.out _ _).mono ?_); rintro e w8 ⟨rfl, hb8⟩; have k8 := keepF (by assumption) hb8)
    | ((with_reducible refine (B4.out _ _).mono ?_); rintro e w8 ⟨rfl, hb8⟩; have k8 := keepF (by assumption) hb8)
    | ((with_reducible refine (B6.out _ _ (recF (by assumption))).mono ?_); rintro e w8 ⟨rfl, hb8⟩; have k8 := keepF (by assumption) hb8))
  all_goals
    have HB9 := Lib.hid (belowF (by assumption))
    go_wp2_with fail
    go_ret
    exact ⟨rfl, HB9.out⟩
theorem fields_walk (s0 : ByteArray) (n more : Int) (w0 : s0.size ≤ maxLen) (_w1 : (Lit.int .i64 n).wf = true) (_w2 : (Lit.int .i64 more).wf = true) (w : World) (G : Gi w) :
    Calls Tryz.prog 5 #[.string s0, .int .i64 n, .int .i64 more] w fun e w' => e = .returned (.bool true) ∧ Below w.heap.size w w' := by
  obtain ⟨s, hs⟩ : ∃ s, cutB s0 60 = s := ⟨_, rfl⟩
  have C1 : Hid (∀ W, Calls Tryz.prog 8 #[.string s0, .int .i64 60] W fun e w' => e = .returned (.string s) ∧ W = w') := Lib.hid fun W => by
    have := cut_any s0 60 W w0 (by omega)
    rw [hs] at this; exact this
  have hsz : s.size ≤ 60 := by rw [← hs]; exact cutB_size s0 60
  have AW := Lib.hid fun W G => iawake_any W G
  have HG := Lib.hid G
  clear hs w0 G
  by_cases hin : (0 ≤ n ∧ n ≤ 100) ∧ 1 ≤ more ∧ more ≤ 500
  · obtain ⟨⟨h1, h2⟩, h3, h4⟩ := hin
    obtain ⟨N, rfl⟩ : ∃ N : Nat, n = N := ⟨n.toNat, by omega⟩
    obtain ⟨j, rfl⟩ : ∃ j : Nat, more = (j : Int) + 1 := ⟨(more - 1).toNat, by omega⟩
    have hsep : (⟨#[32]⟩ : ByteArray).size = 1 := rfl
    have hl0 := fields_len s ⟨#[32]⟩ hsep
    have hs0 := sum_blank s
    have ho0 := ok_blank s (by omega)
    have CL : ∀ W b x y, W.heap[b]? = some (.cells #[x, y] 35 (0, 0)) → Gi W → Calls Tryz.prog 12 #[.pointer (some ⟨b, 0, none⟩), .string s, .string ⟨#[32]⟩] W (LdPost b s ((fieldsB s ⟨#[32]⟩).map inC) W) :=
      fun W b x y hx G => load_any b x y s ⟨#[32]⟩ W (by omega) hsep (by omega) hx G
    generalize hL0 : (fieldsB s ⟨#[32]⟩).map inC = L0 at *
    have hln0 : L0.length ≤ 500 := by rw [← hL0, List.length_map]; omega
    clear hL0 hl0
    obtain ⟨L1, hL1⟩ : ∃ L1, szL L0 N = L1 := ⟨_, rfl⟩
    have hn1 : L1.length = N := by rw [← hL1]; exact szL_len _ _
    have hs1 : sumC L1 ≤ 60 := by rw [← hL1]; have := sumC_sz L0 N; omega
    have ho1 : ∀ c ∈ L1, okc c := by rw [← hL1]; exact ok_sz ho0 N
    obtain ⟨L2, hL2⟩ : ∃ L2, stL L1 j t7 = L2 := ⟨_, rfl⟩
    obtain ⟨m, hm⟩ : ∃ m, max (j + 1) N = m := ⟨_, rfl⟩
    have hn2 : L2.length = m := by rw [← hL2, stL_len, hn1, hm]
    have hs2 : sumC L2 ≤ 61 := by
      rw [← hL2]
      unfold stL
      have h5 := sumC_set (szL L1 (max (j + 1) L1.length)) j t7
      have h6 := sumC_sz L1 (max (j + 1) L1.length)
      rw [t7_ctx] at h5
      omega
    have ho2 : ∀ c ∈ L2, okc c := by rw [← hL2]; unfold stL; exact ok_set (ok_sz ho1 _) j t7_ok
    have h32 : ([32] : List UInt8).length = 1 := rfl
    have hT1 := jk_fits L1 [32] N
    have hT2 := jk_fits L2 [32] m
    rw [h32] at hT1 hT2
    obtain ⟨T1, e1⟩ : ∃ T : ByteArray, T.data.toList = jk L1 [32] N := ⟨⟨(jk L1 [32] N).toArray⟩, rfl⟩
    obtain ⟨T2, e2⟩ : ∃ T : ByteArray, T.data.toList = jk L2 [32] m := ⟨⟨(jk L2 [32] m).toArray⟩, rfl⟩
    have z1 : T1.size ≤ 4000 := by rw [← ba_sz, e1]; omega
    have z2 : T2.size ≤ 4000 := by rw [← ba_sz, e2]; omega
    have i7 := fun W => cint_any 7 W (by omega)
    rw [show clampI (7 * 1000000) = 7000000 from rfl] at i7
    refine fields_in s0 s T1 T2 N j m L0 L1 L2 w HG (by omega) (by omega) hm.symm hn1 hn2 AW C1 (Lib.hid CL) (Lib.hid fun W b v h G => ?_) (Lib.hid i7) (Lib.hid fun W b v h G => ?_) (Lib.hid fun W b v h => ?_)
    · have := resize_any h N (by omega) ⟨#[32]⟩ T1 (by rw [hL1]; exact ho1) (by rw [hL1]; exact e1) z1 (by decide) G
      rw [hL1] at this; exact this
    · have := rset_any h j t7 (by omega) (by omega) ⟨#[32]⟩ ⟨#[32]⟩ T2 (by decide) (by rw [hL2]; exact ho2) (by rw [hL2, hn1, hm]; exact e2) z2 (by decide) G
      rw [hL2] at this; exact this
    · have hjl : j < L2.length := by omega
      have hg : L2[j] = t7 := by
        subst hL2
        unfold stL
        exact List.getElem_set_self _
      exact rget_any h j hjl (by omega) t7 hg (by decide)
  · have hout : n < 0 ∨ (¬ n < 0 ∧ 100 < n) ∨ (¬ n < 0 ∧ ¬ 100 < n ∧ more < 1) ∨ (¬ n < 0 ∧ ¬ 100 < n ∧ ¬ more < 1 ∧ 500 < more) := by omega
    clear hin hsz
    rcases hout with h1 | ⟨h1, h2⟩ | ⟨h1, h2, h3⟩ | ⟨h1, h2, h3, h4⟩
    all_goals
      go_enter Tryz.func5, Tryz.ntmps5
      go_wp2_with fail
      refine (C1.out _).mono ?_
      rintro e w1 ⟨rfl, rfl⟩
      go_wp2_with fail
      refine (AW.out _ HG.out).mono ?_
      rintro e w3 ⟨rfl, hb3⟩
      have HB3 := Lib.hid hb3
      clear hb3
      go_wp2_with fail
      go_ret
      exact ⟨rfl, HB3.out⟩
end Go.Proofs.YtllbnbnpcogckaaGreatDoor
