/-
 CONTRACT of layer 13's laws' own awake: an answer that the document fixes.
-/
import Derived.Test.YtmbfdkiejneheaaGreatDoorLxM
import Derived.Test.YtmbfdkiejneheaaGreatDoorAnM
import Derived.Lib.SlicesS
import Derived.Test.YtmbfdkiejneheaaGreatDoorPaW2
import Derived.Test.YtmbfdkiejneheaaGreatDoorPaXI
import Derived.Test.YtmbfdkiejneheaaGreatDoorAnPr
namespace Go.Proofs.YtmbfdkiejneheaaGreatDoor.An
open Go.RowKit

mutual
/-- No node has more kids than memory holds. -/
def Wd : T → Prop
 | .mk _ _ _ ks => ks.length ≤ 9223372036854775807 ∧ WdL ks
def WdL : List T → Prop
 | [] => True
 | t :: l => Wd t ∧ WdL l
end
theorem WdL.get : ∀ {l : List T}, WdL l → ∀ t ∈ l, Wd t
 | [], _, _, h => by cases h
 | u :: l, h, t, ht => by
  rw [WdL] at h
  rcases List.mem_cons.1 ht with rfl | ht
  ·
   exact h.1
  ·
   exact WdL.get h.2 t ht

def eqB (x y : ByteArray) : Bool := x.toList == y.toList
theorem eqB_iff {x y : ByteArray} : eqB x y = true ↔ x = y := Lib.bytes_beq_iff x y
theorem eqB_no {x y : ByteArray} : eqB x y = false ↔ x ≠ y := Lib.bytes_beq_false_iff x y
mutual
/-- Are two trees the same, but for their places? -/
def sameT : T → T → Bool
 | .mk a b _ ks, t => eqB a t.op && (eqB b t.tx && sameL ks t.ks)
def sameL : List T → List T → Bool
 | [], m => m.isEmpty
 | t :: l, m => match m with | [] => false | u :: m => sameT t u && sameL l m
end
theorem sameL_nil (m : List T) : sameL [] m = m.isEmpty := by rw [sameL]
theorem sameL_cons (t u : T) (l m : List T) : sameL (t :: l) (u :: m) = (sameT t u && sameL l m) := by rw [sameL]
theorem sameL_len : ∀ {l m : List T}, sameL l m = true → l.length = m.length
 | [], m, h => by rw [sameL_nil] at h; simpa using (List.isEmpty_iff.1 h).symm ▸ rfl
 | t :: l, [], h => by simp [sameL] at h
 | t :: l, u :: m, h => by
  rw [sameL_cons, Bool.and_eq_true] at h
  rw [List.length_cons, List.length_cons, sameL_len h.2]
theorem sameL_iff : ∀ {l m : List T}, l.length = m.length → (sameL l m = true ↔ ∀ (i : Nat) (h : i < l.length) (h2 : i < m.length), sameT l[i] m[i] = true)
 | [], m, h => by
  have : m = [] := List.length_eq_zero_iff.1 (by simpa using h.symm)
  subst this
  simp [sameL]
 | t :: l, [], h => by simp at h
 | t :: l, u :: m, h => by
  have hl : l.length = m.length := by simpa using h
  rw [sameL_cons, Bool.and_eq_true, sameL_iff hl]
  constructor
  ·
   rintro ⟨h1, h2⟩ i hi hi2
   cases i with
   | zero => exact h1
   | succ i => exact h2 i (by simpa using hi) (by simpa using hi2)
  ·
   intro h1
   exact ⟨h1 0 (by simp) (by simp), fun i hi hi2 => h1 (i + 1) (by simpa using hi) (by simpa using hi2)⟩
def SameOk (a : AT) : Prop := ∀ (b : AT) (w : World) (B C : Nat → Prop), TV w B a.nd a.ks → TV w C b.nd b.ks → Wd (er a) →
 Calls Tryz.prog 13 #[a.nd.val, b.nd.val] w fun e w' => e = .returned (.bool (sameT (er a) (er b))) ∧ Below w.heap.size w w'
set_option maxHeartbeats 4000000 in
set_option maxRecDepth 100000 in
theorem eqf_any (ks ms : List AT) (p q : Option Addr) (c d : Nat) (w : World) (B C : Nat → Prop) (hp : Kd p ks) (hq : Kd q ms) (hks : MemL w B ks) (hms : MemL w C ms) (ih : ∀ k ∈ ks, SameOk k) (hz : (erL ks).length ≤ 9223372036854775807 ∧ WdL (erL ks)) :
  Calls Tryz.prog 18 #[.slice p ks.length c, .slice q ms.length d, .func (.func 13) #[] #[]] w fun e w' => e = .returned (.bool (sameL (erL ks) (erL ms))) ∧ Below w.heap.size w w' := by
 have hkl : ks.length ≤ 9223372036854775807 := by have := hz.1; rwa [erL_len] at this
 have HP := kH hp
 have HQ := kH hq
 have HKS := kH hks
 have HMS := kH hms
 have HIH := kH ih
 have HZ := kH hz
 clear hp hq hks hms ih hz
 by_cases hl : ks.length = ms.length
 ·
  have HL := kH hl
  rw [← hl]
  clear hl
  go_enter Tryz.func18, Tryz.ntmps18
  go_wp2_with fail
  go_loopw [17] (fun iv wr => ∃ k : Nat, k ≤ ks.length ∧ iv = .int .i64 (k : Int) ∧ Hid (∀ (j : Nat), j < k → ∀ (h1 : j < ks.length) (h2 : j < ms.length), sameT (er ks[j]) (er ms[j]) = true) ∧ Hid (Below w.heap.size w wr)) (fun iv _ => ks.length - (intOf iv).toNat)
  case atStart => exact ⟨0, Nat.zero_le _, by simp, kH (fun j h => by omega), kH (Below.refl _ _)⟩
  case round =>
   obtain ⟨k, hk, rfl, HS, HB⟩ := hrel
   by_cases hc : k < ks.length
   ·
    have hki : (k : Int) < (ks.length : Int) := by omega
    have hc2 : k < ms.length := by have := HL.out; omega
    obtain ⟨kg, ko, rfl, hkk⟩ : ∃ kg ko, p = some ⟨kg, ko, none⟩ ∧ ∀ (i : Nat) (h : i < ks.length), ks[i].g = kg ∧ ks[i].o = ko + i * 4 := by
     rcases HP.out with rfl | h
     ·
      simp at hc
     ·
      exact h
    obtain ⟨mg, mo, rfl, hmm⟩ : ∃ kg ko, q = some ⟨kg, ko, none⟩ ∧ ∀ (i : Nat) (h : i < ms.length), ms[i].g = kg ∧ ms[i].o = ko + i * 4 := by
     rcases HQ.out with rfl | h
     ·
      simp at hc2
     ·
      exact h
    obtain ⟨eg, eo⟩ := hkk k hc
    obtain ⟨fg, fo⟩ := hmm k hc2
    obtain ⟨_, ⟨c0, c1, c2, c3⟩, hkd2, hmem2⟩ := Mem.iff.1 ((HKS.out.all _ (List.getElem_mem hc)).next HB.out)
    obtain ⟨_, hnd, hkd3, hmem3⟩ := Mem.iff.1 ((HMS.out.all _ (List.getElem_mem hc2)).next HB.out)
    rw [eg, eo] at c0 c1 c2 c3
    rw [fg, fo] at hnd
    have HTV : Hid (TV wr B ks[k].nd ks[k].ks) := kH ⟨by cases ks[k]; rfl, hkd2, hmem2⟩
    have HTW : Hid (TV wr C ms[k].nd ms[k].ks) := kH ⟨by cases ms[k]; rfl, hkd3, hmem3⟩
    have HC := kH (HIH.out ks[k] (List.getElem_mem hc) ms[k])
    have hsz : Wd (er ks[k]) := HZ.out.2.get _ (by rw [erL_map]; exact List.mem_map_of_mem (List.getElem_mem hc))
    have HSZ := kH hsz
    have HST : Hid (sameT (er ks[k]) (er ms[k]) = true → ∀ (j : Nat), j < k + 1 → ∀ (h1 : j < ks.length) (h2 : j < ms.length), sameT (er ks[j]) (er ms[j]) = true) := kH (fun h j hj h1 h2 => by
     by_cases e : j = k
     ·
      subst e; exact h
     ·
      exact HS.out j (by omega) h1 h2)
    have HSF : Hid (sameT (er ks[k]) (er ms[k]) = false → sameL (erL ks) (erL ms) = false) := kH (fun h => by
     rw [Bool.eq_false_iff]
     intro h2
     rw [sameL_iff (by rw [erL_len, erL_len]; exact HL.out)] at h2
     have h3 := h2 k (by rw [erL_len]; exact hc) (by rw [erL_len]; exact hc2)
     simp only [erL_map, List.getElem_map] at h3
     rw [h] at h3
     cases h3)
    clear hkk hmm eg eo fg fo hkd2 hmem2 hkd3 hmem3 hsz HS
    generalize ks[k] = ak at *
    generalize ms[k] = bk at *
    obtain ⟨⟨a1, a2, a3, a4, a5, a6⟩, hna⟩ : ∃ n, n = ak.nd := ⟨_, rfl⟩
    obtain ⟨⟨b1, b2, b3, b4, b5, b6⟩, hnb⟩ : ∃ n, n = bk.nd := ⟨_, rfl⟩
    rw [← hna] at c0 c1 c2 c3 HTV
    rw [← hnb] at hnd HTW
    have HNA := kH hna
    have HNB := kH hnb
    simp only at c0 c1 c2 c3
    clear hna hnb
    obtain ⟨d0, d1, d2, d3⟩ := hnd.kept (Below.heap_alloc wr (.cells #[.string a1, .string a2, .int .i64 a3, .slice a4 a5 a6] 25) mg hnd.lt)
    simp only at d0 d1 d2 d3
    clear hnd
    have hba : Below wr.heap.size wr ((wr.alloc (.cells #[.string a1, .string a2, .int .i64 a3, .slice a4 a5 a6] 25)).alloc (.cells #[.string b1, .string b2, .int .i64 b3, .slice b4 b5 b6] 25)) := ((Below.refl _ _).alloc (Nat.le_refl _) _).alloc (by simp) _
    have HCC : Hid (Calls Tryz.prog 13 #[.agg #[.string a1, .string a2, .int .i64 a3, .slice a4 a5 a6], .agg #[.string b1, .string b2, .int .i64 b3, .slice b4 b5 b6]] ((wr.alloc (.cells #[.string a1, .string a2, .int .i64 a3, .slice a4 a5 a6] 25)).alloc (.cells #[.string b1, .string b2, .int .i64 b3, .slice b4 b5 b6] 25)) fun e w' => e = .returned (.bool (sameT (er ak) (er bk))) ∧ Below ((wr.alloc (.cells #[.string a1, .string a2, .int .i64 a3, .slice a4 a5 a6] 25)).alloc (.cells #[.string b1, .string b2, .int .i64 b3, .slice b4 b5 b6] 25)).heap.size ((wr.alloc (.cells #[.string a1, .string a2, .int .i64 a3, .slice a4 a5 a6] 25)).alloc (.cells #[.string b1, .string b2, .int .i64 b3, .slice b4 b5 b6] 25)) w') := kH (by
     have h := HC.out ((wr.alloc (.cells #[.string a1, .string a2, .int .i64 a3, .slice a4 a5 a6] 25)).alloc (.cells #[.string b1, .string b2, .int .i64 b3, .slice b4 b5 b6] 25)) B C
     rw [← HNA.out, ← HNB.out] at h
     exact h (HTV.out.next hba) (HTW.out.next hba) HSZ.out)
    have HBA := kH (HB.out.trans (hba.mono HB.out.size))
    clear hba HTV HTW HC
    cases hs : sameT (er ak) (er bk) with
    | true =>
     rw [hs] at HCC
     have HS2 := kH (HST.out hs)
     clear HST HSF hs
     go_wp2_with fail
     refine HCC.out.mono ?_
     rintro e w3 ⟨rfl, hb3⟩
     have HB3 := kH (HBA.out.trans (hb3.mono HBA.out.size))
     clear hb3 HBA HCC
     go_wp2_with fail
     go_round
     case measure => simp [intOf]; omega
     case rel => exact ⟨k + 1, by omega, by simp, HS2, HB3⟩
    | false =>
     rw [hs] at HCC
     have HS2 := kH (HSF.out hs)
     clear HST HSF hs
     go_wp2_with fail
     refine HCC.out.mono ?_
     rintro e w3 ⟨rfl, hb3⟩
     have HB3 := kH (HBA.out.trans (hb3.mono HBA.out.size))
     clear hb3 HBA HCC
     go_wp2_with fail
     go_ret
     exact ⟨by rw [HS2.out]; rfl, HB3.out⟩
   ·
    obtain rfl : k = ks.length := by omega
    have hki : ¬ (ks.length : Int) < (ks.length : Int) := by omega
    have HR : Hid (sameL (erL ks) (erL ms) = true) := kH (by
     rw [sameL_iff (by rw [erL_len, erL_len]; exact HL.out)]
     intro i h1 h2
     simp only [erL_map, List.getElem_map]
     rw [erL_len] at h1 h2
     have := HL.out
     exact HS.out i h1 h1 (by have := HL.out; omega))
    go_wp2_with fail
    go_ret
    exact ⟨by rw [HR.out]; rfl, HB.out⟩
 ·
  have hli : ((ks.length : Int) == (ms.length : Int)) = false := by rw [beq_eq_false_iff_ne]; omega
  have HR : Hid (sameL (erL ks) (erL ms) = false) := kH (by
   rw [Bool.eq_false_iff]
   intro h
   have := sameL_len h
   rw [erL_len, erL_len] at this
   exact hl this)
  go_enter Tryz.func18, Tryz.ntmps18
  go_wp2_with fail
  go_ret
  exact ⟨by rw [HR.out]; rfl, Below.refl _ _⟩
theorem sameT_eq (a b : AT) : sameT (er a) (er b) = (eqB a.nd.op b.nd.op && (eqB a.nd.tx b.nd.tx && sameL (erL a.ks) (erL b.ks))) := by
 cases a; cases b; rw [er, er, sameT]; rfl
set_option maxHeartbeats 4000000 in
set_option maxRecDepth 100000 in
theorem same_one (a : AT) (ih : ∀ k ∈ a.ks, SameOk k) : SameOk a := by
 intro b w B C hA hB hz
 rw [sameT_eq]
 obtain ⟨⟨a1, a2, a3, a4, a5, a6⟩, hna⟩ : ∃ n, n = a.nd := ⟨_, rfl⟩
 obtain ⟨⟨b1, b2, b3, b4, b5, b6⟩, hnb⟩ : ∃ n, n = b.nd := ⟨_, rfl⟩
 rw [← hna] at hA ⊢
 rw [← hnb] at hB ⊢
 have hz2 : (erL a.ks).length ≤ 9223372036854775807 ∧ WdL (erL a.ks) := by cases a; rw [er, Wd] at hz; exact hz
 obtain rfl : a5 = a.ks.length := hA.len
 obtain rfl : b5 = b.ks.length := hB.len
 obtain ⟨_, hka, hma⟩ := hA
 obtain ⟨_, hkb, hmb⟩ := hB
 simp only at hka hkb ⊢
 have hba : Below w.heap.size w ((w.alloc (.cells #[.string a1, .string a2, .int .i64 a3, .slice a4 a.ks.length a6] 25)).alloc (.cells #[.string b1, .string b2, .int .i64 b3, .slice b4 b.ks.length b6] 25)) := ((Below.refl _ _).alloc (Nat.le_refl _) _).alloc (by simp) _
 have HC := kH (eqf_any a.ks b.ks a4 b4 a6 b6 _ B C hka hkb (hma.next hba) (hmb.next hba) ih hz2)
 have HBA := kH hba
 clear hba hka hma hkb hmb ih hz hz2 hna hnb
 simp only [Nd.val]
 cases h1 : eqB a1 b1 with
 | false =>
  have g1 : (a1.toList == b1.toList) = false := h1
  clear h1
  go_enter Tryz.func13, Tryz.ntmps13
  go_wp2_with fail
  go_ret
  exact ⟨rfl, HBA.out⟩
 | true =>
  have g1 : (a1.toList == b1.toList) = true := h1
  clear h1
  cases h2 : eqB a2 b2 with
  | false =>
   have g2 : (a2.toList == b2.toList) = false := h2
   clear h2
   go_enter Tryz.func13, Tryz.ntmps13
   go_wp2_with fail
   go_ret
   exact ⟨rfl, HBA.out⟩
  | true =>
   have g2 : (a2.toList == b2.toList) = true := h2
   clear h2
   go_enter Tryz.func13, Tryz.ntmps13
   go_wp2_with fail
   refine HC.out.mono ?_
   rintro e w3 ⟨rfl, hb3⟩
   have HB3 := kH (HBA.out.trans (hb3.mono HBA.out.size))
   clear hb3 HBA HC
   go_wp2_with fail
   go_ret
   exact ⟨by simp, HB3.out⟩
mutual
theorem same_any : ∀ a : AT, SameOk a
 | .mk op tx pl kp kc g o ks => same_one (.mk op tx pl kp kc g o ks) (sameAL ks)
theorem sameAL : ∀ (l : List AT), ∀ k ∈ l, SameOk k
 | [], k, h => by cases h
 | a :: l, k, h => by
  rcases List.mem_cons.1 h with h | h
  ·
   rw [h]; exact same_any a
  ·
   exact sameAL l k h
end
theorem same_of (n m : Nd) (t u : T) (b c : Nat) (w : World) (h : VT w b n t) (k : VT w c m u) (hz : Wd t) :
  Calls Tryz.prog 13 #[n.val, m.val] w fun e w' => e = .returned (.bool (sameT t u)) ∧ Below w.heap.size w w' := by
 obtain ⟨ks, h1, rfl⟩ := h
 obtain ⟨ms, k1, rfl⟩ := k
 obtain ⟨op, tx, pl, kp, kn, kc⟩ := n
 obtain ⟨mp, mx, ml, np, nn, nc⟩ := m
 obtain rfl : kn = ks.length := h1.len
 obtain rfl : nn = ms.length := k1.len
 have := same_any (.mk op tx pl kp kc 0 0 ks) (.mk mp mx ml np nc 0 0 ms) w _ _ h1 k1 (by rw [er]; exact hz)
 rw [er, er] at this
 exact this
end Go.Proofs.YtmbfdkiejneheaaGreatDoor.An

namespace Go.Proofs.YtmbfdkiejneheaaGreatDoor
open Go.RowKit

mutual
def toT : PT → An.T
 | .mk op tx pl ks => .mk (bs op) (bs tx) (pl : Int) (toTs ks)
def toTs : List PT → List An.T
 | [] => []
 | t :: l => toT t :: toTs l
end
def An.cv (n : An) : An.Nd := ⟨n.op, n.tx, n.pl, n.kp, n.kn, n.kc⟩
theorem cv_val (n : An) : (An.cv n).val = An.val n := rfl
theorem cv_row : ∀ ns : List An, An.ndRow (ns.map An.cv) = anRow ns
 | [] => rfl
 | n :: ns => by rw [List.map_cons, An.ndRow, anRow, cv_row ns]; rfl
mutual
theorem TreeP.tr {w : World} {B : Nat → Prop} : ∀ (t : PT) (n : An), TreeP w B t n → An.Tr w B (toT t) (An.cv n)
 | .mk op tx pl ks, n, h => by
  unfold TreeP at h
  obtain ⟨h1, h2, h0, ns, h3, h4, h5⟩ := h
  have hl := h5.len
  have ht := TreesP.tr ks ns h5
  have hlen : n.kn = ks.length := by
   rcases h3.2 with ⟨e, e2⟩ | ⟨g, cap, cur, e, _⟩
   ·
    unfold An.kids at e; injection e with _ e3 _; omega
   ·
    unfold An.kids at e; injection e
  obtain ⟨ms, k1, k2⟩ := An.gather (B' := B) (p := n.kp) (n := ks.length) (c := n.kc) (by unfold An.kids; rw [hlen]) (by rw [cv_row]; exact h3) (by rw [List.length_map]; exact hl) ht (fun _ h _ => h) (fun g hg => h4 g hg) (bs op) (bs tx) (pl : Int)
  refine ⟨ms, ?_, ?_⟩
  ·
   unfold An.cv; rw [h1, h2, h0, hlen]; exact k1
  ·
   unfold An.cv An.Nd.t toT; rw [h1, h2, h0, k2]
theorem TreesP.tr {w : World} {B : Nat → Prop} : ∀ (ts : List PT) (ns : List An), TreesP w B ts ns → An.Trs w B (toTs ts) (ns.map An.cv)
 | [], ns, h => by unfold TreesP at h; subst h; rfl
 | t :: ts, ns, h => by
  unfold TreesP at h
  obtain ⟨n, rest, rfl, h2, h3⟩ := h
  exact ⟨An.cv n, rest.map An.cv, rfl, TreeP.tr t n h2, TreesP.tr ts rest h3⟩
end
mutual
theorem TreeP.wd {w : World} {B : Nat → Prop} : ∀ (t : PT) (n : An), TreeP w B t n → An.Wd (toT t)
 | .mk op tx pl ks, n, h => by
  unfold TreeP at h
  obtain ⟨h1, h2, h0, ns, h3, h4, h5⟩ := h
  rw [toT, An.Wd]
  refine ⟨?_, TreesP.wd ks ns h5⟩
  have e : (toTs ks).length = ks.length := by
   clear h5 h3
   induction ks with
   | nil => rfl
   | cons a l ih => rw [toTs, List.length_cons, ih, List.length_cons]
  rw [e]
  rcases h3.2 with ⟨_, e2⟩ | ⟨g, cap, cur, _, _, _, hc, hm, _⟩
  ·
   omega
  ·
   unfold maxLen at hm; omega
theorem TreesP.wd {w : World} {B : Nat → Prop} : ∀ (ts : List PT) (ns : List An), TreesP w B ts ns → An.WdL (toTs ts)
 | [], _, _ => by rw [toTs, An.WdL]; trivial
 | t :: ts, ns, h => by
  unfold TreesP at h
  obtain ⟨n, rest, _, h2, h3⟩ := h
  rw [toTs, An.WdL]
  exact ⟨TreeP.wd t n h2, TreesP.wd ts rest h3⟩
end
theorem TreeP.vt {w : World} {b : Nat} {t : PT} {n : An} (h : TreeP w (fun k => b ≤ k) t n) : An.VT w b (An.cv n) (toT t) := TreeP.tr t n h
end Go.Proofs.YtmbfdkiejneheaaGreatDoor

namespace Go.Proofs.YtmbfdkiejneheaaGreatDoor
open Go.RowKit

abbrev Tabs (w : World) : Prop := Lib.TabBelow Tryz.prog w.heap.size w "internal/strconv.uint64pow10" .u64 Lib.pow10Tab
theorem Tabs.next {w w' : World} (h : Tabs w) (hb : Below w.heap.size w w') : Tabs w' := fun W' h' => h W' (hb.trans (h'.mono hb.size))
def awS : List UInt8 := [66, 69, 71, 73, 78, 123, 120, 61, 97, 32, 98, 43, 49, 125]
def awB : List UInt8 := [66, 69, 71, 73, 78, 123, 120, 61, 125]
def awT : PT := match parseL awS with
 | .ok t => t
 | .error _ => nd [] []
theorem awT_eq : parseL awS = .ok awT := by kernel_rfl
theorem awB_eq : parseL awB = .error (8, 9) := by kernel_rfl
def awP : List UInt8 := [40, 112, 114, 111, 103, 114, 97, 109, 32, 40, 98, 101, 103, 105, 110, 32, 40, 98, 108, 111, 99, 107, 32, 40, 101, 120, 112, 114, 32, 40, 97, 115, 115, 105, 103, 110, 32, 49, 58, 61, 32, 40, 118, 97, 114, 32, 49, 58, 120, 41, 32, 40, 99, 97, 116, 32, 40, 118, 97, 114, 32, 49, 58, 97, 41, 32, 40, 97, 100, 100, 32, 40, 118, 97, 114, 32, 49, 58, 98, 41, 32, 40, 110, 117, 109, 32, 49, 58, 49, 41, 41, 41, 41, 41, 41, 41, 41]
theorem awP_eq : An.printL (toT awT) = awP := by kernel_rfl
set_option maxHeartbeats 8000000 in
set_option maxRecDepth 100000 in
theorem awake_any (w : World) (htab : Tabs w) :
  Calls Tryz.prog 12 #[] w fun e w' => e = .returned (.bool true) ∧ Below w.heap.size w w' := by
 have C1 := kH fun W => parse_any ⟨#[66, 69, 71, 73, 78, 123, 120, 61, 97, 32, 98, 43, 49, 125]⟩ W (by decide)
 have C2 := kH fun W => parse_any ⟨#[66, 69, 71, 73, 78, 123, 120, 61, 125]⟩ W (by decide)
 have CP := kH fun n b W (h : An.VT W b n (toT awT)) (hW : Below w.heap.size w W) => An.Print_any n (toT awT) b W h (by rw [awP_eq]; decide) (htab.next hW)
 rw [show ({ data := #[66, 69, 71, 73, 78, 123, 120, 61, 97, 32, 98, 43, 49, 125] } : ByteArray).data.toList = awS from rfl, awT_eq] at C1
 rw [show ({ data := #[66, 69, 71, 73, 78, 123, 120, 61, 125] } : ByteArray).data.toList = awB from rfl, awB_eq] at C2
 rw [awP_eq] at CP
 have HB0 := kH (Below.refl w.heap.size w)
 clear htab
 go_enter Tryz.func12, Tryz.ntmps12
 go_wp2_with fail
 refine (C1.out _).mono ?_
 rintro e w1 ⟨hb1, n, rfl, tr1⟩
 have HB1 := kH (hb1.alloc hb1.size (nB n))
 have HV1 := kH ((TreeP.vt tr1).next ((Below.refl _ _).alloc (Nat.le_refl _) (nB n)))
 have HN1 := kH (BlkA.new w1 n)
 clear hb1 tr1 HB0
 unfold An.val
 go_wp2_with fail
 generalize w1.alloc (nB n) = w2 at *
 generalize w1.heap.size = gn at *
 refine (C2.out _).mono ?_
 rintro e w3 ⟨hb3, rfl⟩
 have HB3 := kH (HB1.out.trans (hb3.mono HB1.out.size))
 have HV3 := kH (HV1.out.next hb3)
 have HN3 := kH (HN1.out.below hb3)
 clear hb3 HB1 HV1 HN1
 obtain ⟨v0, v1, v2, v3, vk0, vk1, vk2, vk3⟩ := HN3.out.cells
 have hgn : gn < w3.heap.size := HN3.out.lt
 have hne : gn ≠ w3.heap.size := by omega
 have hne2 : w3.heap.size ≠ gn := by omega
 have HB3 := kH (HB3.out.alloc HB3.out.size zN)
 have HV3 := kH (HV3.out.next ((Below.refl _ _).alloc (Nat.le_refl _) zN))
 go_wp2_with fail
 refine (CP.out (An.cv n) _ _ HV3.out HB3.out).mono ?_
 rintro e w4 ⟨rfl, hb4⟩
 have HB4 := kH (HB3.out.trans (hb4.mono HB3.out.size))
 clear hb4
 unfold awP
 go_wp2_with fail
 go_ret
 exact ⟨rfl, HB4.out⟩
end Go.Proofs.YtmbfdkiejneheaaGreatDoor
