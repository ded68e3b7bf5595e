/-
  CONTRACT of the document's own Print (layer 12).
-/
import Derived.Test.YtgahamppfdhnaaaDoorAsRs
import Derived.Test.YtgahamppfdhnaaaDoorAsDig
namespace Go.Proofs.YtgahamppfdhnaaaDoor
open Go.RowKit

set_option maxHeartbeats 1000000 in
theorem rtext_any (t : ByteArray) (w : World) (ht : t.size ≤ 100000) :
    Calls Tryd.prog 24 #[.string t] w fun e w' => e = .returned (.string ⟨(Lib.itoa t.size ++ 58 :: t.data.toList).toArray⟩) ∧ Below w.heap.size w w' := by
  have hfin : (⟨(Lib.decDigits t.size).toArray⟩ : ByteArray) ++ ⟨#[58]⟩ ++ t = ⟨(Lib.itoa t.size ++ 58 :: t.data.toList).toArray⟩ := by
    refine bytes_ext ?_
    simp only [ByteArray.data_append, Array.toList_append]
    rw [Lib.itoa_nonneg]
    simp
  have hdl : (Lib.decDigits t.size).length ≤ 20 := by rw [Lib.decDigits_length]; exact Lib.nDigits_le20 _ (by omega)
  have HFIN := Lib.hid hfin
  have D := Lib.hid (fun w => refdigits_any t.size w (by omega))
  clear hfin
  generalize Lib.decDigits t.size = dd at *
  go_enter Tryd.func24, Tryd.ntmps24
  go_wp2_with fail
  refine (D.out _).mono ?_
  rintro e w1 ⟨rfl, hb⟩
  go_wp2_with fail
  go_ret
  exact ⟨by rw [← HFIN.out]; rfl, hb⟩
def RPrOk (a : AT) : Prop := ∀ (w : World) (B : Nat → Prop), TV w B a.nd a.ks → (printL (er a)).length ≤ 90000 →
  Calls Tryd.prog 12 #[a.nd.val] w fun e w' => e = .returned (.string ⟨(printL (er a)).toArray⟩) ∧ Below w.heap.size w w'
/-- What the document's Print reads. -/
structure Rp1 (w : World) (B : Nat → Prop) (N : Nd) (ks : List AT) (W : World) : Prop where
  bel : Below w.heap.size w W
  n : NodeAt W w.heap.size 0 N
  ks : MemL W B ks
theorem Rp1.next {w W W' : World} {B : Nat → Prop} {N : Nd} {ks : List AT} (h : Rp1 w B N ks W) (hb : Below W.heap.size W W') : Rp1 w B N ks W' :=
  ⟨h.bel.trans (hb.mono h.bel.size), h.n.kept (hb.block _ h.n.lt), h.ks.next hb⟩
/-- What is put together: so many bytes of it. -/
def Sx (s : ByteArray) (l : List UInt8) : Prop := s.data.toList = l
theorem Sx.app {s t : ByteArray} {l m : List UInt8} (h : Sx s l) (k : Sx t m) : Sx (s ++ t) (l ++ m) := by
  unfold Sx at *
  rw [ByteArray.data_append, Array.toList_append, h, k]
theorem Sx.size {s : ByteArray} {l : List UInt8} (h : Sx s l) : s.size = l.length := by
  unfold Sx at h
  rw [← h]
  simp
theorem Sx.of (l : List UInt8) : Sx ⟨l.toArray⟩ l := by simp [Sx]
theorem Sx.eq {s : ByteArray} {l : List UInt8} (h : Sx s l) : s = ⟨l.toArray⟩ := bytes_ext (by rw [h])
theorem kids_at (ks : List AT) (k : Nat) (h : k < ks.length) : (printL (er ks[k])).length + 1 ≤ (kidsL (erL ks)).length := by
  have h1 := kidsL_snoc ks k h
  have h2 := kidsL_le ks (k + 1)
  rw [h1, List.length_append, List.length_cons] at h2
  omega
set_option maxHeartbeats 8000000 in
set_option maxRecDepth 100000 in
theorem rprint_in (op tx : ByteArray) (pl : Int) (kp : Option Addr) (kc : Nat) (ks : List AT) (w : World) (B : Nat → Prop) (hkd : Kd kp ks) (hm : MemL w B ks) (ih : ∀ k ∈ ks, RPrOk k) (hz : (printL (.mk op tx pl (erL ks))).length ≤ 90000) :
    Calls Tryd.prog 12 #[.agg #[.string op, .string tx, .int .i64 pl, .slice kp ks.length kc]] w fun e w' => e = .returned (.string ⟨(printL (.mk op tx pl (erL ks))).toArray⟩) ∧ Below w.heap.size w w' := by
  have hba : Below w.heap.size w (w.alloc (.cells #[.string op, .string tx, .int .i64 pl, .slice kp ks.length kc] 28)) := (Below.refl _ _).alloc (Nat.le_refl _) _
  have HR : Hid (Rp1 w B ⟨op, tx, pl, kp, ks.length, kc⟩ ks (w.alloc (.cells #[.string op, .string tx, .int .i64 pl, .slice kp ks.length kc] 28))) := Lib.hid ⟨hba, node_new' w ⟨op, tx, pl, kp, ks.length, kc⟩, hm.next hba⟩
  have hpl : (printL (.mk op tx pl (erL ks))).length = 2 + op.size + (textL tx).length + (kidsL (erL ks)).length := by
    rw [printL]
    simp only [List.length_cons, List.length_append, List.length_nil, Array.length_toList]
    have : op.data.size = op.size := rfl
    omega
  have hos : op.size ≤ 1000000 := by omega
  have hkl : (kidsL (erL ks)).length ≤ 1000000 := by omega
  have hkn : ks.length ≤ 1000000 := Nat.le_trans (kidsL_ge ks) hkl
  have HPL := Lib.hid hpl
  have HZ := Lib.hid hz
  have HKD := Lib.hid hkd
  have HIH := Lib.hid ih
  have HS0 : Hid (Sx (⟨#[40]⟩ ++ op) (40 :: op.data.toList)) := Lib.hid (Sx.app (Sx.of [40]) (rfl : Sx op op.data.toList))
  have htx : tx.size ≤ 100000 := by
    have h1 : tx.size ≤ (textL tx).length := by
      unfold textL
      split
      · omega
      · simp only [List.length_cons, List.length_append, Array.length_toList]
        have : tx.data.size = tx.size := rfl
        omega
    omega
  have hkl9 : (kidsL (erL ks)).length ≤ 90000 := by omega
  clear hba hkd hm ih hz hpl
  have HT := Lib.hid fun W => rtext_any tx W htx
  have HSZ : Hid (∀ k, ((40 :: (op.data.toList ++ textL tx)) ++ kidsL (erL (ks.take k))).length ≤ 1000000) := Lib.hid fun k => by
    have h1 := kidsL_le ks k
    have h2 := HPL.out
    have h3 := HZ.out
    simp only [List.length_cons, List.length_append, Array.length_toList]
    have : op.data.size = op.size := rfl
    omega
  by_cases h0 : tx.size = 0
  · have HTL : Hid (textL tx = []) := Lib.hid (if_pos h0)
    have h0i : ¬ (0 : Int) < (tx.size : Int) := by omega
    have HS1 : Hid (Sx (⟨#[40]⟩ ++ op) (40 :: (op.data.toList ++ textL tx))) := Lib.hid (by rw [HTL.out, List.append_nil]; exact HS0.out)
    clear HS0 HTL HT
    have HRs := HR
    clear HR
    go_enter Tryd.func12, Tryd.ntmps12
    go_wp2_with fail
    generalize (⟨#[40]⟩ ++ op : ByteArray) = S1 at *
    go_loopw [3, 22] (fun sv iv wr => ∃ (k : Nat) (S : ByteArray), k ≤ ks.length ∧ sv = .string S ∧ iv = .int .i64 (k : Int) ∧ S.size ≤ 1000000 ∧ Hid (Sx S ((40 :: (op.data.toList ++ textL tx)) ++ kidsL (erL (ks.take k)))) ∧ Hid (Rp1 w B ⟨op, tx, pl, kp, ks.length, kc⟩ ks wr)) (fun _ iv _ => ks.length - (intOf iv).toNat)
    case atStart => exact ⟨0, S1, Nat.zero_le _, rfl, by simp, by rw [HS1.out.size]; have := HSZ.out 0; rw [List.take_zero, erL, kidsL, List.append_nil] at this; exact this, by rw [List.take_zero, erL, kidsL, List.append_nil]; exact HS1, HRs⟩
    case round =>
      obtain ⟨k, S, hk, rfl, rfl, hSs, HS, HRr⟩ := hrel
      clear HS1 HRs
      by_cases hc : k < ks.length
      · have hki : (k : Int) < (ks.length : Int) := by omega
        obtain ⟨kg, ko, rfl, hkk⟩ : ∃ kg ko, kp = some ⟨kg, ko, none⟩ ∧ ∀ (i : Nat) (h : i < ks.length), ks[i].g = kg ∧ ks[i].o = ko + i * 4 := by
          rcases HKD.out with rfl | h
          · simp at hc
          · exact h
        obtain ⟨eg, eo⟩ := hkk k hc
        obtain ⟨_, hna, hkd2, hmem2⟩ := Mem.iff.1 (HRr.out.ks.all _ (List.getElem_mem hc))
        rw [eg, eo] at hna
        have hpk := kids_at ks k hc
        have hpk2 : (printL (er ks[k])).length ≤ 90000 := by omega
        have hTA : TV wr B ks[k].nd ks[k].ks := ⟨by cases ks[k]; rfl, hkd2, hmem2⟩
        have hcall := fun W (h : Below wr.heap.size wr W) => HIH.out ks[k] (List.getElem_mem hc) W B (hTA.next h) hpk2
        have HNX : Hid (∀ P : ByteArray, Sx P (printL (er ks[k])) → Sx (S ++ (⟨#[32]⟩ ++ P)) ((40 :: (op.data.toList ++ textL tx)) ++ kidsL (erL (ks.take (k + 1))))) := Lib.hid (fun P hP => by
          rw [kidsL_snoc ks k hc, ← List.append_assoc]
          exact HS.out.app (Sx.app (Sx.of [32]) hP))
        have HPS : Hid (Sx ⟨(printL (er ks[k])).toArray⟩ (printL (er ks[k]))) := Lib.hid (Sx.of _)
        have hps : (⟨(printL (er ks[k])).toArray⟩ : ByteArray).size ≤ 1000000 := by rw [HPS.out.size]; omega
        have hns := HNX.out _ HPS.out
        have hns2 := HSZ.out (k + 1)
        rw [← hns.size] at hns2
        have HNS := Lib.hid hns
        obtain ⟨⟨x1, x2, x3, x4, x5, x6⟩, hxa⟩ : ∃ n, n = ks[k].nd := ⟨_, rfl⟩
        rw [← hxa] at hna hcall
        simp only [Nd.val] at hcall
        clear hkk eg eo hkd2 hmem2 hpk hpk2 hTA hxa HNX HPS HS hns
        generalize (⟨(printL (er ks[k])).toArray⟩ : ByteArray) = P at *
        have hb1 : Below wr.heap.size wr (wr.alloc (.cells #[.string x1, .string x2, .int .i64 x3, .slice x4 x5 x6] 28)) := (Below.refl _ _).alloc (Nat.le_refl _) _
        have HC := Lib.hid (hcall _ hb1)
        have HRa := Lib.hid (HRr.out.next hb1)
        obtain ⟨c0, c1, c2, c3⟩ := hna
        simp only at c0 c1 c2 c3
        clear hcall hb1 HRr
        go_wp2_with fail
        refine HC.out.mono ?_
        rintro e w8 ⟨rfl, hb8⟩
        have HR8 := Lib.hid (HRa.out.next hb8)
        clear hb8 HRa HC
        go_wp2_with fail
        go_roundw
        case measure => simp [intOf]; omega
        case rel => exact ⟨k + 1, _, by omega, rfl, by simp, hns2, HNS, HR8⟩
      · obtain rfl : k = ks.length := by omega
        have hki : ¬ (ks.length : Int) < (ks.length : Int) := by omega
        have HFS : Hid (S ++ ⟨#[41]⟩ = ⟨(printL (.mk op tx pl (erL ks))).toArray⟩) := Lib.hid (by
          refine Sx.eq ?_
          have h := HS.out
          rw [List.take_length] at h
          have h2 := h.app (Sx.of [41])
          rw [printL]
          simpa using h2)
        clear HS
        go_wp2_with fail
        go_ret
        exact ⟨by rw [← HFS.out]; rfl, HRr.out.bel⟩
  · have HTL : Hid (textL tx = 32 :: (Lib.itoa tx.size ++ 58 :: tx.data.toList)) := Lib.hid (if_neg h0)
    have h0i : (0 : Int) < (tx.size : Int) := by omega
    have HS1 : Hid (Sx ((⟨#[40]⟩ ++ op) ++ (⟨#[32]⟩ ++ ⟨(Lib.itoa tx.size ++ 58 :: tx.data.toList).toArray⟩)) (40 :: (op.data.toList ++ textL tx))) := Lib.hid (by
      have h := HS0.out.app (Sx.app (Sx.of [32]) (Sx.of (Lib.itoa tx.size ++ 58 :: tx.data.toList)))
      rw [HTL.out]
      simpa using h)
    have hts : (⟨(Lib.itoa tx.size ++ 58 :: tx.data.toList).toArray⟩ : ByteArray).size ≤ 1000000 := by
      have := as_itoa_len tx.size (by omega)
      rw [(Sx.of _).size, List.length_append, List.length_cons]
      have h2 : tx.data.toList.length = tx.size := by simp
      omega
    clear HS0 HTL
    generalize (⟨(Lib.itoa tx.size ++ 58 :: tx.data.toList).toArray⟩ : ByteArray) = TT at *
    go_enter Tryd.func12, Tryd.ntmps12
    go_wp2_with fail
    refine (HT.out _).mono ?_
    rintro e w2 ⟨rfl, hb2⟩
    have HRs := Lib.hid (HR.out.next hb2)
    obtain ⟨z0, z1, z2, z3⟩ := HRs.out.n
    simp only at z0 z1 z2 z3
    clear hb2 HR HT
    go_wp2_with fail
    generalize ((⟨#[40]⟩ ++ op) ++ (⟨#[32]⟩ ++ TT) : ByteArray) = S1 at *
    go_loopw [3, 22] (fun sv iv wr => ∃ (k : Nat) (S : ByteArray), k ≤ ks.length ∧ sv = .string S ∧ iv = .int .i64 (k : Int) ∧ S.size ≤ 1000000 ∧ Hid (Sx S ((40 :: (op.data.toList ++ textL tx)) ++ kidsL (erL (ks.take k)))) ∧ Hid (Rp1 w B ⟨op, tx, pl, kp, ks.length, kc⟩ ks wr)) (fun _ iv _ => ks.length - (intOf iv).toNat)
    case atStart => exact ⟨0, S1, Nat.zero_le _, rfl, by simp, by rw [HS1.out.size]; have := HSZ.out 0; rw [List.take_zero, erL, kidsL, List.append_nil] at this; exact this, by rw [List.take_zero, erL, kidsL, List.append_nil]; exact HS1, HRs⟩
    case round =>
      obtain ⟨k, S, hk, rfl, rfl, hSs, HS, HRr⟩ := hrel
      clear HS1 HRs
      by_cases hc : k < ks.length
      · have hki : (k : Int) < (ks.length : Int) := by omega
        obtain ⟨kg, ko, rfl, hkk⟩ : ∃ kg ko, kp = some ⟨kg, ko, none⟩ ∧ ∀ (i : Nat) (h : i < ks.length), ks[i].g = kg ∧ ks[i].o = ko + i * 4 := by
          rcases HKD.out with rfl | h
          · simp at hc
          · exact h
        obtain ⟨eg, eo⟩ := hkk k hc
        obtain ⟨_, hna, hkd2, hmem2⟩ := Mem.iff.1 (HRr.out.ks.all _ (List.getElem_mem hc))
        rw [eg, eo] at hna
        have hpk := kids_at ks k hc
        have hpk2 : (printL (er ks[k])).length ≤ 90000 := by omega
        have hTA : TV wr B ks[k].nd ks[k].ks := ⟨by cases ks[k]; rfl, hkd2, hmem2⟩
        have hcall := fun W (h : Below wr.heap.size wr W) => HIH.out ks[k] (List.getElem_mem hc) W B (hTA.next h) hpk2
        have HNX : Hid (∀ P : ByteArray, Sx P (printL (er ks[k])) → Sx (S ++ (⟨#[32]⟩ ++ P)) ((40 :: (op.data.toList ++ textL tx)) ++ kidsL (erL (ks.take (k + 1))))) := Lib.hid (fun P hP => by
          rw [kidsL_snoc ks k hc, ← List.append_assoc]
          exact HS.out.app (Sx.app (Sx.of [32]) hP))
        have HPS : Hid (Sx ⟨(printL (er ks[k])).toArray⟩ (printL (er ks[k]))) := Lib.hid (Sx.of _)
        have hps : (⟨(printL (er ks[k])).toArray⟩ : ByteArray).size ≤ 1000000 := by rw [HPS.out.size]; omega
        have hns := HNX.out _ HPS.out
        have hns2 := HSZ.out (k + 1)
        rw [← hns.size] at hns2
        have HNS := Lib.hid hns
        obtain ⟨⟨x1, x2, x3, x4, x5, x6⟩, hxa⟩ : ∃ n, n = ks[k].nd := ⟨_, rfl⟩
        rw [← hxa] at hna hcall
        simp only [Nd.val] at hcall
        clear hkk eg eo hkd2 hmem2 hpk hpk2 hTA hxa HNX HPS HS hns
        generalize (⟨(printL (er ks[k])).toArray⟩ : ByteArray) = P at *
        have hb1 : Below wr.heap.size wr (wr.alloc (.cells #[.string x1, .string x2, .int .i64 x3, .slice x4 x5 x6] 28)) := (Below.refl _ _).alloc (Nat.le_refl _) _
        have HC := Lib.hid (hcall _ hb1)
        have HRa := Lib.hid (HRr.out.next hb1)
        obtain ⟨c0, c1, c2, c3⟩ := hna
        simp only at c0 c1 c2 c3
        clear hcall hb1 HRr
        go_wp2_with fail
        refine HC.out.mono ?_
        rintro e w8 ⟨rfl, hb8⟩
        have HR8 := Lib.hid (HRa.out.next hb8)
        clear hb8 HRa HC
        go_wp2_with fail
        go_roundw
        case measure => simp [intOf]; omega
        case rel => exact ⟨k + 1, _, by omega, rfl, by simp, hns2, HNS, HR8⟩
      · obtain rfl : k = ks.length := by omega
        have hki : ¬ (ks.length : Int) < (ks.length : Int) := by omega
        have HFS : Hid (S ++ ⟨#[41]⟩ = ⟨(printL (.mk op tx pl (erL ks))).toArray⟩) := Lib.hid (by
          refine Sx.eq ?_
          have h := HS.out
          rw [List.take_length] at h
          have h2 := h.app (Sx.of [41])
          rw [printL]
          simpa using h2)
        clear HS
        go_wp2_with fail
        go_ret
        exact ⟨by rw [← HFS.out]; rfl, HRr.out.bel⟩
theorem rprint_one (a : AT) (ih : ∀ k ∈ a.ks, RPrOk k) : RPrOk a := by
  intro w B hA hz
  obtain ⟨op, tx, pl, kp, kc, g, o, ks⟩ := a
  rw [er] at hz ⊢
  exact rprint_in op tx pl kp kc ks w B hA.kd hA.mem ih hz
mutual
theorem rprint_any : ∀ a : AT, RPrOk a
  | .mk op tx pl kp kc g o ks => rprint_one (.mk op tx pl kp kc g o ks) (rprintAL ks)
theorem rprintAL : ∀ (l : List AT), ∀ k ∈ l, RPrOk k
  | [], k, h => by cases h
  | a :: l, k, h => by
    rcases List.mem_cons.1 h with h | h
    · rw [h]; exact rprint_any a
    · exact rprintAL l k h
end
theorem rprint_of (n : Nd) (t : T) (b : Nat) (w : World) (h : VT w b n t) (hz : (printL t).length ≤ 90000) :
    Calls Tryd.prog 12 #[n.val] w fun e w' => e = .returned (.string ⟨(printL t).toArray⟩) ∧ Below w.heap.size w w' := by
  obtain ⟨ks, h1, rfl⟩ := h
  obtain ⟨op, tx, pl, kp, kn, kc⟩ := n
  obtain rfl : kn = ks.length := h1.len
  have := rprint_any (.mk op tx pl kp kc 0 0 ks) w _ h1 (by rw [er]; exact hz)
  rw [er] at this
  exact this
end Go.Proofs.YtgahamppfdhnaaaDoor
