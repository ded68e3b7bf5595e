/-
  CONTRACTS of layer 12's Same and of slices.EqualFunc over it.
-/
import Derived.Test.YtgahamppfdhnaaaDoorAsKidsW
import Derived.Lib.SlicesS
namespace Go.Proofs.YtgahamppfdhnaaaDoor
open Go.RowKit

def eqB (x y : ByteArray) : Bool := x.toList == y.toList
theorem eqB_iff {x y : ByteArray} : eqB x y = true ↔ x = y := Lib.bytes_beq_iff x y
theorem eqB_no {x y : ByteArray} : eqB x y = false ↔ x ≠ y := Lib.bytes_beq_false_iff x y
mutual
/-- Are two trees the same, but for their places? -/
def sameT : T → T → Bool
  | .mk a b _ ks, t => eqB a t.op && (eqB b t.tx && sameL ks t.ks)
def sameL : List T → List T → Bool
  | [], m => m.isEmpty
  | t :: l, m => match m with | [] => false | u :: m => sameT t u && sameL l m
end
theorem sameL_nil (m : List T) : sameL [] m = m.isEmpty := by rw [sameL]
theorem sameL_cons (t u : T) (l m : List T) : sameL (t :: l) (u :: m) = (sameT t u && sameL l m) := by rw [sameL]
theorem sameL_len : ∀ {l m : List T}, sameL l m = true → l.length = m.length
  | [], m, h => by rw [sameL_nil] at h; simpa using (List.isEmpty_iff.1 h).symm ▸ rfl
  | t :: l, [], h => by simp [sameL] at h
  | t :: l, u :: m, h => by
    rw [sameL_cons, Bool.and_eq_true] at h
    rw [List.length_cons, List.length_cons, sameL_len h.2]
theorem sameL_iff : ∀ {l m : List T}, l.length = m.length → (sameL l m = true ↔ ∀ (i : Nat) (h : i < l.length) (h2 : i < m.length), sameT l[i] m[i] = true)
  | [], m, h => by
    have : m = [] := List.length_eq_zero_iff.1 (by simpa using h.symm)
    subst this
    simp [sameL]
  | t :: l, [], h => by simp at h
  | t :: l, u :: m, h => by
    have hl : l.length = m.length := by simpa using h
    rw [sameL_cons, Bool.and_eq_true, sameL_iff hl]
    constructor
    · rintro ⟨h1, h2⟩ i hi hi2
      cases i with
      | zero => exact h1
      | succ i => exact h2 i (by simpa using hi) (by simpa using hi2)
    · intro h1
      exact ⟨h1 0 (by simp) (by simp), fun i hi hi2 => h1 (i + 1) (by simpa using hi) (by simpa using hi2)⟩
def SameOk (a : AT) : Prop := ∀ (b : AT) (w : World) (B C : Nat → Prop), TV w B a.nd a.ks → TV w C b.nd b.ks → (er a).size ≤ 1000000 →
  Calls Tryd.prog 13 #[a.nd.val, b.nd.val] w fun e w' => e = .returned (.bool (sameT (er a) (er b))) ∧ Below w.heap.size w w'
set_option maxHeartbeats 4000000 in
set_option maxRecDepth 100000 in
theorem eqf_any (ks ms : List AT) (p q : Option Addr) (c d : Nat) (w : World) (B C : Nat → Prop) (hp : Kd p ks) (hq : Kd q ms) (hks : MemL w B ks) (hms : MemL w C ms) (ih : ∀ k ∈ ks, SameOk k) (hz : sizeL (erL ks) ≤ 1000000) :
    Calls Tryd.prog 25 #[.slice p ks.length c, .slice q ms.length d, .func (.func 13) #[] #[]] w fun e w' => e = .returned (.bool (sameL (erL ks) (erL ms))) ∧ Below w.heap.size w w' := by
  have hkl : ks.length ≤ 1000000 := by
    have := told_sizeL_len (erL ks)
    rw [erL_len] at this
    omega
  have HP := Lib.hid hp
  have HQ := Lib.hid hq
  have HKS := Lib.hid hks
  have HMS := Lib.hid hms
  have HIH := Lib.hid ih
  have HZ := Lib.hid hz
  clear hp hq hks hms ih hz
  by_cases hl : ks.length = ms.length
  · have HL := Lib.hid hl
    rw [← hl]
    clear hl
    go_enter Tryd.func25, Tryd.ntmps25
    go_wp2_with fail
    go_loopw [17] (fun iv wr => ∃ k : Nat, k ≤ ks.length ∧ iv = .int .i64 (k : Int) ∧ Hid (∀ (j : Nat), j < k → ∀ (h1 : j < ks.length) (h2 : j < ms.length), sameT (er ks[j]) (er ms[j]) = true) ∧ Hid (Below w.heap.size w wr)) (fun iv _ => ks.length - (intOf iv).toNat)
    case atStart => exact ⟨0, Nat.zero_le _, by simp, Lib.hid (fun j h => by omega), Lib.hid (Below.refl _ _)⟩
    case round =>
      obtain ⟨k, hk, rfl, HS, HB⟩ := hrel
      by_cases hc : k < ks.length
      · have hki : (k : Int) < (ks.length : Int) := by omega
        have hc2 : k < ms.length := by have := HL.out; omega
        obtain ⟨kg, ko, rfl, hkk⟩ : ∃ kg ko, p = some ⟨kg, ko, none⟩ ∧ ∀ (i : Nat) (h : i < ks.length), ks[i].g = kg ∧ ks[i].o = ko + i * 4 := by
          rcases HP.out with rfl | h
          · simp at hc
          · exact h
        obtain ⟨mg, mo, rfl, hmm⟩ : ∃ kg ko, q = some ⟨kg, ko, none⟩ ∧ ∀ (i : Nat) (h : i < ms.length), ms[i].g = kg ∧ ms[i].o = ko + i * 4 := by
          rcases HQ.out with rfl | h
          · simp at hc2
          · exact h
        obtain ⟨eg, eo⟩ := hkk k hc
        obtain ⟨fg, fo⟩ := hmm k hc2
        obtain ⟨_, ⟨c0, c1, c2, c3⟩, hkd2, hmem2⟩ := Mem.iff.1 ((HKS.out.all _ (List.getElem_mem hc)).next HB.out)
        obtain ⟨_, hnd, hkd3, hmem3⟩ := Mem.iff.1 ((HMS.out.all _ (List.getElem_mem hc2)).next HB.out)
        rw [eg, eo] at c0 c1 c2 c3
        rw [fg, fo] at hnd
        have HTV : Hid (TV wr B ks[k].nd ks[k].ks) := Lib.hid ⟨by cases ks[k]; rfl, hkd2, hmem2⟩
        have HTW : Hid (TV wr C ms[k].nd ms[k].ks) := Lib.hid ⟨by cases ms[k]; rfl, hkd3, hmem3⟩
        have HC := Lib.hid (HIH.out ks[k] (List.getElem_mem hc) ms[k])
        have hsz : (er ks[k]).size ≤ 1000000 := by have := told_size_kid (List.getElem_mem hc); have := HZ.out; omega
        have HSZ := Lib.hid hsz
        have HST : Hid (sameT (er ks[k]) (er ms[k]) = true → ∀ (j : Nat), j < k + 1 → ∀ (h1 : j < ks.length) (h2 : j < ms.length), sameT (er ks[j]) (er ms[j]) = true) := Lib.hid (fun h j hj h1 h2 => by
          by_cases e : j = k
          · subst e; exact h
          · exact HS.out j (by omega) h1 h2)
        have HSF : Hid (sameT (er ks[k]) (er ms[k]) = false → sameL (erL ks) (erL ms) = false) := Lib.hid (fun h => by
          rw [Bool.eq_false_iff]
          intro h2
          rw [sameL_iff (by rw [erL_len, erL_len]; exact HL.out)] at h2
          have h3 := h2 k (by rw [erL_len]; exact hc) (by rw [erL_len]; exact hc2)
          simp only [erL_map, List.getElem_map] at h3
          rw [h] at h3
          cases h3)
        clear hkk hmm eg eo fg fo hkd2 hmem2 hkd3 hmem3 hsz HS
        generalize ks[k] = ak at *
        generalize ms[k] = bk at *
        obtain ⟨⟨a1, a2, a3, a4, a5, a6⟩, hna⟩ : ∃ n, n = ak.nd := ⟨_, rfl⟩
        obtain ⟨⟨b1, b2, b3, b4, b5, b6⟩, hnb⟩ : ∃ n, n = bk.nd := ⟨_, rfl⟩
        rw [← hna] at c0 c1 c2 c3 HTV
        rw [← hnb] at hnd HTW
        have HNA := Lib.hid hna
        have HNB := Lib.hid hnb
        simp only at c0 c1 c2 c3
        clear hna hnb
        obtain ⟨d0, d1, d2, d3⟩ := hnd.kept (Below.heap_alloc wr (.cells #[.string a1, .string a2, .int .i64 a3, .slice a4 a5 a6] 25) mg hnd.lt)
        simp only at d0 d1 d2 d3
        clear hnd
        have hba : Below wr.heap.size wr ((wr.alloc (.cells #[.string a1, .string a2, .int .i64 a3, .slice a4 a5 a6] 25)).alloc (.cells #[.string b1, .string b2, .int .i64 b3, .slice b4 b5 b6] 25)) := ((Below.refl _ _).alloc (Nat.le_refl _) _).alloc (by simp) _
        have HCC : Hid (Calls Tryd.prog 13 #[.agg #[.string a1, .string a2, .int .i64 a3, .slice a4 a5 a6], .agg #[.string b1, .string b2, .int .i64 b3, .slice b4 b5 b6]] ((wr.alloc (.cells #[.string a1, .string a2, .int .i64 a3, .slice a4 a5 a6] 25)).alloc (.cells #[.string b1, .string b2, .int .i64 b3, .slice b4 b5 b6] 25)) fun e w' => e = .returned (.bool (sameT (er ak) (er bk))) ∧ Below ((wr.alloc (.cells #[.string a1, .string a2, .int .i64 a3, .slice a4 a5 a6] 25)).alloc (.cells #[.string b1, .string b2, .int .i64 b3, .slice b4 b5 b6] 25)).heap.size ((wr.alloc (.cells #[.string a1, .string a2, .int .i64 a3, .slice a4 a5 a6] 25)).alloc (.cells #[.string b1, .string b2, .int .i64 b3, .slice b4 b5 b6] 25)) w') := Lib.hid (by
          have h := HC.out ((wr.alloc (.cells #[.string a1, .string a2, .int .i64 a3, .slice a4 a5 a6] 25)).alloc (.cells #[.string b1, .string b2, .int .i64 b3, .slice b4 b5 b6] 25)) B C
          rw [← HNA.out, ← HNB.out] at h
          exact h (HTV.out.next hba) (HTW.out.next hba) HSZ.out)
        have HBA := Lib.hid (HB.out.trans (hba.mono HB.out.size))
        clear hba HTV HTW HC
        cases hs : sameT (er ak) (er bk) with
        | true =>
          rw [hs] at HCC
          have HS2 := Lib.hid (HST.out hs)
          clear HST HSF hs
          go_wp2_with fail
          refine HCC.out.mono ?_
          rintro e w3 ⟨rfl, hb3⟩
          have HB3 := Lib.hid (HBA.out.trans (hb3.mono HBA.out.size))
          clear hb3 HBA HCC
          go_wp2_with fail
          go_round
          case measure => simp [intOf]; omega
          case rel => exact ⟨k + 1, by omega, by simp, HS2, HB3⟩
        | false =>
          rw [hs] at HCC
          have HS2 := Lib.hid (HSF.out hs)
          clear HST HSF hs
          go_wp2_with fail
          refine HCC.out.mono ?_
          rintro e w3 ⟨rfl, hb3⟩
          have HB3 := Lib.hid (HBA.out.trans (hb3.mono HBA.out.size))
          clear hb3 HBA HCC
          go_wp2_with fail
          go_ret
          exact ⟨by rw [HS2.out]; rfl, HB3.out⟩
      · obtain rfl : k = ks.length := by omega
        have hki : ¬ (ks.length : Int) < (ks.length : Int) := by omega
        have HR : Hid (sameL (erL ks) (erL ms) = true) := Lib.hid (by
          rw [sameL_iff (by rw [erL_len, erL_len]; exact HL.out)]
          intro i h1 h2
          simp only [erL_map, List.getElem_map]
          rw [erL_len] at h1 h2
          have := HL.out
          exact HS.out i h1 h1 (by have := HL.out; omega))
        go_wp2_with fail
        go_ret
        exact ⟨by rw [HR.out]; rfl, HB.out⟩
  · have hli : ((ks.length : Int) == (ms.length : Int)) = false := by rw [beq_eq_false_iff_ne]; omega
    have HR : Hid (sameL (erL ks) (erL ms) = false) := Lib.hid (by
      rw [Bool.eq_false_iff]
      intro h
      have := sameL_len h
      rw [erL_len, erL_len] at this
      exact hl this)
    go_enter Tryd.func25, Tryd.ntmps25
    go_wp2_with fail
    go_ret
    exact ⟨by rw [HR.out]; rfl, Below.refl _ _⟩
theorem sameT_eq (a b : AT) : sameT (er a) (er b) = (eqB a.nd.op b.nd.op && (eqB a.nd.tx b.nd.tx && sameL (erL a.ks) (erL b.ks))) := by
  cases a; cases b; rw [er, er, sameT]; rfl
set_option maxHeartbeats 4000000 in
set_option maxRecDepth 100000 in
theorem same_one (a : AT) (ih : ∀ k ∈ a.ks, SameOk k) : SameOk a := by
  intro b w B C hA hB hz
  rw [sameT_eq]
  obtain ⟨⟨a1, a2, a3, a4, a5, a6⟩, hna⟩ : ∃ n, n = a.nd := ⟨_, rfl⟩
  obtain ⟨⟨b1, b2, b3, b4, b5, b6⟩, hnb⟩ : ∃ n, n = b.nd := ⟨_, rfl⟩
  rw [← hna] at hA ⊢
  rw [← hnb] at hB ⊢
  have hz2 : sizeL (erL a.ks) ≤ 1000000 := by cases a; rw [er, T.size] at hz; simp only [AT.ks]; omega
  obtain rfl : a5 = a.ks.length := hA.len
  obtain rfl : b5 = b.ks.length := hB.len
  obtain ⟨_, hka, hma⟩ := hA
  obtain ⟨_, hkb, hmb⟩ := hB
  simp only at hka hkb ⊢
  have hba : Below w.heap.size w ((w.alloc (.cells #[.string a1, .string a2, .int .i64 a3, .slice a4 a.ks.length a6] 25)).alloc (.cells #[.string b1, .string b2, .int .i64 b3, .slice b4 b.ks.length b6] 25)) := ((Below.refl _ _).alloc (Nat.le_refl _) _).alloc (by simp) _
  have HC := Lib.hid (eqf_any a.ks b.ks a4 b4 a6 b6 _ B C hka hkb (hma.next hba) (hmb.next hba) ih hz2)
  have HBA := Lib.hid hba
  clear hba hka hma hkb hmb ih hz hz2 hna hnb
  simp only [Nd.val]
  cases h1 : eqB a1 b1 with
  | false =>
    have g1 : (a1.toList == b1.toList) = false := h1
    clear h1
    go_enter Tryd.func13, Tryd.ntmps13
    go_wp2_with fail
    go_ret
    exact ⟨rfl, HBA.out⟩
  | true =>
    have g1 : (a1.toList == b1.toList) = true := h1
    clear h1
    cases h2 : eqB a2 b2 with
    | false =>
      have g2 : (a2.toList == b2.toList) = false := h2
      clear h2
      go_enter Tryd.func13, Tryd.ntmps13
      go_wp2_with fail
      go_ret
      exact ⟨rfl, HBA.out⟩
    | true =>
      have g2 : (a2.toList == b2.toList) = true := h2
      clear h2
      go_enter Tryd.func13, Tryd.ntmps13
      go_wp2_with fail
      refine HC.out.mono ?_
      rintro e w3 ⟨rfl, hb3⟩
      have HB3 := Lib.hid (HBA.out.trans (hb3.mono HBA.out.size))
      clear hb3 HBA HC
      go_wp2_with fail
      go_ret
      exact ⟨by simp, HB3.out⟩
mutual
theorem same_any : ∀ a : AT, SameOk a
  | .mk op tx pl kp kc g o ks => same_one (.mk op tx pl kp kc g o ks) (sameAL ks)
theorem sameAL : ∀ (l : List AT), ∀ k ∈ l, SameOk k
  | [], k, h => by cases h
  | a :: l, k, h => by
    rcases List.mem_cons.1 h with h | h
    · rw [h]; exact same_any a
    · exact sameAL l k h
end
theorem same_of (n m : Nd) (t u : T) (b c : Nat) (w : World) (h : VT w b n t) (k : VT w c m u) (hz : t.size ≤ 1000000) :
    Calls Tryd.prog 13 #[n.val, m.val] w fun e w' => e = .returned (.bool (sameT t u)) ∧ Below w.heap.size w w' := by
  obtain ⟨ks, h1, rfl⟩ := h
  obtain ⟨ms, k1, rfl⟩ := k
  obtain ⟨op, tx, pl, kp, kn, kc⟩ := n
  obtain ⟨mp, mx, ml, np, nn, nc⟩ := m
  obtain rfl : kn = ks.length := h1.len
  obtain rfl : nn = ms.length := k1.len
  have := same_any (.mk op tx pl kp kc 0 0 ks) (.mk mp mx ml np nc 0 0 ms) w _ _ h1 k1 (by rw [er]; exact hz)
  rw [er, er] at this
  exact this
end Go.Proofs.YtgahamppfdhnaaaDoor
