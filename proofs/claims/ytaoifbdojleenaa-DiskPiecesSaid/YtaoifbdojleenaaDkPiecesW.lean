/-
  THE WALK of the law DiskPieces: whatever the texts and the two numbers, it returns true and writes to nothing that was there.
-/
import Derived.Test.YtaoifbdojleenaaDkSm
import Derived.Test.YtaoifbdojleenaaDkAw
import Derived.Test.YtaoifbdojleenaaDkWT
import Derived.Test.YtaoifbdojleenaaCutA
namespace Go.Proofs.Ytaoifbdojleenaa
open Go.RowKit Go.Maps

variable {Fp : Nat → Prop} {w : World} {Bd : Nat} {d : DS} {m : Nat}
theorem trunc_d (h : Dsk Fp w Bd d m) (s : ByteArray) (hs : s.size ≤ 100000000) (k : Int) :
    Calls Try.prog 20 #[.pointer (some ⟨Bd, 0, none⟩), .string s, .int .i64 k] w fun e w' => e = .returned (.int .i64 (truE d s k)) ∧ OpPost Fp w Bd (truD d s k) m w' := by
  obtain ⟨a, b, c, hne, hD⟩ := h
  exact trunc_any hD hne s hs k
def nF : Nm := [102]
abbrev sF : ByteArray := ⟨#[102]⟩
theorem sF_list : sF.data.toList = nF := rfl
/-- The file f has these bytes, or there is no file. -/
structure PF (d : DS) (i : Nat) (T : Nm) : Prop where
  dead : d.dead = false
  left : d.left < 0
  quota : d.quota = 100000
  now : (i = 0 ∧ T = [] ∧ d.now = []) ∨ (0 < i ∧ ∃ b, d.now = [(nF, b)] ∧ (d.fs b).1 = T)
theorem pf_new : PF (newDS 100000) 0 [] := ⟨rfl, by show (-1 : Int) < 0; omega, rfl, .inl ⟨rfl, rfl, rfl⟩⟩
theorem PF.app {d : DS} {i : Nat} {T : Nm} (h : PF d i T) {t : ByteArray} {b : Nat} (hb : ¬ d.Has b) (ht : t.size ≤ 50) (hT : T.length ≤ 1000) :
    appE d sF t = 0 ∧ PF (appD d sF t b) (i + 1) (T ++ t.data.toList) := by
  have hl : ¬ d.left = 0 := by have := h.left; omega
  have ok : okN sF = true := by decide
  rcases h.now with ⟨rfl, rfl, hn⟩ | ⟨hi, c, hn, hf⟩
  · have hS : Sm d 100000 0 0 := ⟨h.dead, h.left, h.quota, by simp [usedD, hn], by simp [hn], by rw [hn]; exact List.Pairwise.nil⟩
    obtain ⟨e, S, g, _, hD⟩ := (hS.app (s := sF) (t := t) ok (by rw [hn]; rfl) hb (by omega) (by omega)).1 (by omega)
    refine ⟨e, ?_⟩
    rw [hD]
    refine ⟨h.dead, h.left, h.quota, .inr ⟨by omega, b, ?_, by simp [newF, upd_same]⟩⟩
    show putD d.now nF b = _
    rw [hn]; rfl
  · have hg : getD d.now nF = some c := by rw [hn]; rfl
    have hu : usedD d = T.length := by simp [usedD, hn, lenNow, hf]
    have hr : roomE d sF.data.toList t.size = 0 := by
      rw [roomE_low _ _ _ (by rw [sF_list, hg]; simp), h.quota, hu]
      have hh : hasL d sF.data.toList = T.length := by unfold hasL; rw [sF_list, hg]; exact congrArg List.length hf
      rw [hh, if_neg (by omega), if_neg (by omega)]
    have hD : appD d sF t b = appF d c t.data.toList := by
      unfold appD
      rw [h.dead, ok, hr]
      simp only [Bool.false_eq_true, if_false, ne_eq, not_true, if_neg hl, dec_neg h.left, reduceCtorEq]
      unfold wrD
      rw [show getD d.now [102] = some c from hg]
    refine ⟨by unfold appE; rw [h.dead, ok, hr]; simp [hl], ?_⟩
    rw [hD]
    exact ⟨h.dead, h.left, h.quota, .inr ⟨by omega, c, hn, by simp [appF, upd_same, hf]⟩⟩
theorem PF.read {d : DS} {i : Nat} {T : Nm} (h : PF d i T) (hi : 0 < i) (k n : Nat) : readS d sF k n = ⟨((T.drop k).take n).toArray⟩ ∧ readE d sF k n = 0 := by
  rcases h.now with ⟨h0, _⟩ | ⟨_, c, hn, hf⟩
  · omega
  · have hg : getD d.now nF = some c := by rw [hn]; rfl
    have h1 : findV d nF = some c := by unfold findV; rw [h.dead]; simpa using hg
    have h2 : findE d nF = 0 := by unfold findE; rw [h.dead, hg]; rfl
    constructor
    · unfold readS
      rw [sF_list, h1]
      simp only []
      rw [if_neg (by omega), hf]
      simp
    · unfold readE
      rw [sF_list, h2]
      simp
theorem PF.size {d : DS} {i : Nat} {T : Nm} (h : PF d i T) : (0 < i → sizeR d nF = T.length ∧ findE d nF = 0) ∧ (i = 0 → sizeR d nF = 0 ∧ findE d nF = 5) := by
  rcases h.now with ⟨h0, _, hn⟩ | ⟨hp, c, hn, hf⟩
  · refine ⟨fun h => by omega, fun _ => ?_⟩
    have hg : getD d.now nF = none := by rw [hn]; rfl
    exact ⟨by unfold sizeR findV; rw [h.dead]; simp [hg], by unfold findE; rw [h.dead, hg]; rfl⟩
  · refine ⟨fun _ => ?_, fun h => by omega⟩
    have hg : getD d.now nF = some c := by rw [hn]; rfl
    exact ⟨by unfold sizeR findV; rw [h.dead]; simp [hg, hf], by unfold findE; rw [h.dead, hg]; rfl⟩
theorem PF.cut {d : DS} {i : Nat} {T : Nm} (h : PF d i T) (hi : 0 < i) (k : Int) :
    (k < 0 ∨ (T.length : Int) < k → truE d sF k = 1 ∧ truD d sF k = d) ∧ (¬ (k < 0 ∨ (T.length : Int) < k) → truE d sF k = 0 ∧ PF (truD d sF k) i (T.take k.toNat)) := by
  have hl : ¬ d.left = 0 := by have := h.left; omega
  rcases h.now with ⟨h0, _⟩ | ⟨_, c, hn, hf⟩
  · omega
  · have hg : getD d.now nF = some c := by rw [hn]; rfl
    have h1 : findV d nF = some c := by unfold findV; rw [h.dead]; simpa using hg
    constructor
    · intro hk
      unfold truE truD
      rw [sF_list, h1]
      simp only [hf]
      rw [if_pos hk, if_pos hk]
      exact ⟨rfl, rfl⟩
    · intro hk
      unfold truE truD
      rw [sF_list, h1]
      simp only [hf]
      rw [if_neg hk, if_neg hk, if_neg hl, if_neg hl, dec_neg h.left]
      exact ⟨rfl, h.dead, h.left, h.quota, .inr ⟨hi, c, hn, by simp [cutF, upd_same, hf]⟩⟩

def catL (ss : List ByteArray) (i : Nat) : Nm := ((ss.take i).map (fun s => (cutB s 50).data.toList)).flatten
theorem catL_succ (ss : List ByteArray) (i : Nat) (h : i < ss.length) : catL ss (i + 1) = catL ss i ++ (cutB ss[i] 50).data.toList := by
  unfold catL
  rw [List.take_succ_eq_append_getElem h, List.map_append, List.flatten_append]
  simp
theorem catL_len (ss : List ByteArray) : ∀ i, (catL ss i).length ≤ 50 * i
  | 0 => by simp [catL]
  | i + 1 => by
    by_cases h : i < ss.length
    · rw [catL_succ ss i h, List.length_append]
      have := catL_len ss i
      have := cutB_size ss[i] 50
      have e : (cutB ss[i] 50).data.toList.length = (cutB ss[i] 50).size := by simp
      omega
    · have e : catL ss (i + 1) = catL ss i := by
        unfold catL
        rw [List.take_of_length_le (by omega), List.take_of_length_le (by omega)]
      rw [e]
      have := catL_len ss i
      omega
/-- Texts in memory that came in. -/
def TextsAt (w : World) (v : Value) (ss : List ByteArray) : Prop :=
  ∃ p c, v = .slice p ss.length c ∧ (ss.length : Int) ≤ 9223372036854775807 ∧ (∀ s ∈ ss, s.size ≤ maxLen) ∧ ∀ i (hi : i < ss.length), ∃ a, p = some a ∧ a.block < w.heap.size ∧ w.cell? (a.add i) = some (.string ss[i])
theorem ba_app (a : List UInt8) (b : ByteArray) : (⟨a.toArray⟩ : ByteArray) ++ b = ⟨(a ++ b.data.toList).toArray⟩ := WideShapes.bytes_inj (by simp)
def LoopA (w : World) (ss : List ByteArray) (i : Nat) (Bd : Nat) (wr : World) : Prop := ∃ d, PF d i (catL ss i) ∧ Dsk (Fb w.heap.size) wr Bd d 1000 ∧ Oth (Fb w.heap.size) w wr
def LoopB (w : World) (i : Nat) (T : Nm) (Bd : Nat) (d : DS) (wr : World) : Prop := PF d i T ∧ Dsk (Fb w.heap.size) wr Bd d 1000 ∧ Oth (Fb w.heap.size) w wr
set_option maxHeartbeats 8000000 in
set_option maxRecDepth 100000 in
theorem pieces_walk (v : Value) (ss : List ByteArray) (n0 c0 : Int) (hc0 : (Lit.int .i64 c0).wf = true) (w : World) (hv : TextsAt w v ss) :
    Calls Try.prog 8 #[v, .int .i64 n0, .int .i64 c0] w fun e w' => e = .returned (.bool true) ∧ Below w.heap.size w w' := by
  obtain ⟨p, cap, rfl, hlen, hmx, hat⟩ := hv
  by_cases h1 : n0 < 1
  · have AW := Lib.hid (awake_any w)
    clear hlen hmx hat
    go_enter Try.func8, Try.ntmps8
    go_wp2_with fail
    refine AW.out.mono ?_
    rintro e w1 ⟨rfl, h1⟩
    go_wp2
    go_ret
    exact ⟨rfl, h1⟩
  have h1' : decide (n0 < 1) = false := by simpa using h1
  by_cases h2 : 100 < n0
  · have AW := Lib.hid (awake_any w)
    clear hlen hmx hat
    go_enter Try.func8, Try.ntmps8
    go_wp2_with fail
    refine AW.out.mono ?_
    rintro e w1 ⟨rfl, h1⟩
    go_wp2
    go_ret
    exact ⟨rfl, h1⟩
  have h2' : decide (100 < n0) = false := by simpa using h2
  obtain ⟨n, rfl⟩ : ∃ n : Nat, n0 = n := ⟨n0.toNat, by omega⟩
  have n1 : 1 ≤ n := by omega
  have n100 : n ≤ 100 := by omega
  clear h1 h2
  have NC := Lib.hid (new_d (Fp := Fb w.heap.size) w (Fb_up (Nat.le_refl _)) 100000 (by omega) 1000 (by omega))
  have HA : Hid (∀ wr, Oth (Fb w.heap.size) w wr → ∀ i (hi : i < ss.length), ∃ a, p = some a ∧ wr.cell? (a.add i) = some (.string ss[i])) := by
    refine Lib.hid ?_
    intro wr hO i hi
    obtain ⟨a, e, hb, hc⟩ := hat i hi
    exact ⟨a, e, ((hO.fb (Nat.le_refl _)).cell (p := a.add i) (by have : (a.add i).block = a.block := add_block a i; omega)).trans hc⟩
  have HM := Lib.hid hmx
  clear hat hmx
  go_enter Try.func8, Try.ntmps8
  go_wp2_with fail
  refine NC.out.mono ?_
  rintro e w1 ⟨rfl, d0, o0⟩
  have K0 : Hid (LoopA w ss 0 (w.heap.size + 2) w1) := Lib.hid ⟨_, pf_new, d0, o0⟩
  have Z0 := Lib.hid (show (⟨(catL ss 0).toArray⟩ : ByteArray) = ⟨#[]⟩ from rfl)
  clear NC d0 o0
  go_wp2_with fail
  go_loopw [8, 9] (fun av iv wr => ∃ (i : Nat) (X : ByteArray), i ≤ 20 ∧ i ≤ ss.length ∧ av = .string X ∧ iv = .int .i64 i ∧ Hid (X = ⟨(catL ss i).toArray⟩ ∧ LoopA w ss i (w.heap.size + 2) wr)) (fun _ iv _ => 20 - (intOf iv).toNat)
  case atStart => exact ⟨0, _, by omega, by omega, rfl, rfl, Lib.hid ⟨rfl, K0.out⟩⟩
  case round =>
    obtain ⟨i, X, hi20, hil, rfl, rfl, HK⟩ := hrel
    by_cases hgo : i < ss.length ∧ i < 20
    · obtain ⟨hg1, hg2⟩ := hgo
      obtain ⟨d, P, D, O⟩ := HK.out.2
      obtain ⟨a, rfl, hcell⟩ := HA.out wr O i hg1
      have C1 := Lib.hid (cut_any ss[i] 50 wr (HM.out _ (List.getElem_mem hg1)) (by omega))
      have lc := cutB_size ss[i] 50
      have hcs := catL_succ ss i hg1
      have hcl := catL_len ss i
      have AP := Lib.hid (append_d D (O.up (Fb_up (Nat.le_refl _))) sF (cutB ss[i] 50) (by decide) (by omega) (by omega))
      rw [(P.app (t := cutB ss[i] 50) (b := wr.heap.size) D.fresh lc (by omega)).1] at AP
      have HPN : Hid (∀ b, ¬ d.Has b → PF (appD d sF (cutB ss[i] 50) b) (i + 1) (catL ss (i + 1))) := Lib.hid (fun b hb => by rw [hcs]; exact (P.app hb lc (by omega)).2)
      have HX : Hid (X ++ cutB ss[i] 50 = ⟨(catL ss (i + 1)).toArray⟩) := Lib.hid (by rw [HK.out.1, ba_app, hcs])
      have hXl : X.size ≤ 1000 := by rw [HK.out.1]; show (catL ss i).length ≤ 1000; omega
      have HO := Lib.hid O
      generalize ss[i] = si at *
      generalize cutB si 50 = ci at *
      clear HK K0 Z0 D P O hcs hcl HA HM
      go_wp2_with fail
      refine C1.out.mono ?_
      rintro e w2 ⟨rfl, rfl⟩
      go_wp2_with fail
      refine AP.out.mono ?_
      rintro e w3 ⟨rfl, b, hb, d3, o3⟩
      have KN : Hid (X ++ ci = ⟨(catL ss (i + 1)).toArray⟩ ∧ LoopA w ss (i + 1) (w.heap.size + 2) w3) := Lib.hid ⟨HX.out, _, HPN.out b hb, d3, HO.out.trans o3⟩
      clear AP d3 o3 hb HPN HX HO C1
      go_wp2
      go_roundw
      case rel => exact ⟨i + 1, _, by omega, by omega, rfl, by go_num, KN⟩
      case measure => simp [intOf]; omega
    · by_cases hz : ss.length = 0
      · have g1 : decide ((i : Int) < (ss.length : Int)) = false := by simp; omega
        have hi0 : i = 0 := by omega
        obtain ⟨d, P, D, O⟩ := HK.out.2
        have SZ := Lib.hid (size_d D sF (by decide))
        rw [sF_list, (P.size.2 hi0).1, (P.size.2 hi0).2] at SZ
        have HO := Lib.hid O
        have hz : (ss.length : Int) = 0 := by omega
        clear HK K0 Z0 HA HM P D O
        go_wp2_with fail
        refine SZ.out.mono ?_
        rintro e w7 ⟨rfl, rfl⟩
        have A8 := Lib.hid (awake_any w7)
        clear SZ
        go_wp2_with fail
        refine A8.out.mono ?_
        rintro e w9 ⟨rfl, hb9⟩
        have O9 := Lib.hid (HO.out.trans (Oth.of_below hb9))
        clear A8 hb9 HO
        go_wp2
        go_ret
        exact ⟨rfl, O9.out.fb (Nat.le_refl _)⟩
      · have hi0 : 0 < i := by omega
        have hzz : ((ss.length : Int) == 0) = false := by rw [beq_eq_false_iff_ne]; omega
        by_cases hl2 : i < ss.length
        · have hi20' : i = 20 := by omega
          have g1 : decide ((i : Int) < (ss.length : Int)) = true := by simp; omega
          have g2 : decide ((i : Int) < 20) = false := by simp; omega
          clear hgo
          obtain ⟨d, P, D, O⟩ := HK.out.2
          have hX := HK.out.1
          have hcl := catL_len ss i
          have hTl : (catL ss i).length ≤ 1000 := by omega
          generalize catL ss i = T at *
          clear HK K0 Z0 HA HM hcl
          have KB : Hid (LoopB w i T (w.heap.size + 2) d wr) := Lib.hid ⟨P, D, O⟩
          have HX := Lib.hid hX
          have hXs : X.size = T.length := by rw [hX]; rfl
          clear P D O hX
          go_wp2_with fail
          have Q0 : Hid ((⟨#[]⟩ : ByteArray) = ⟨(T.take 0).toArray⟩) := Lib.hid (by simp)
          go_loopw [13, 14] (fun av iv w5 => ∃ (k : Nat) (Y : ByteArray), k ≤ 1100 ∧ av = .string Y ∧ iv = .int .i64 k ∧ Y.size ≤ 1000 ∧ Hid (Y = ⟨(T.take k).toArray⟩ ∧ LoopB w i T (w.heap.size + 2) d w5)) (fun _ iv _ => 1000 - (intOf iv).toNat)
          case atStart => exact ⟨0, _, by omega, rfl, rfl, by decide, Lib.hid ⟨Q0.out, KB.out⟩⟩
          case round =>
            obtain ⟨k, Y, hk, rfl, rfl, hYs, HK⟩ := hrel
            obtain ⟨P, D, O⟩ := HK.out.2
            by_cases hkT : k < T.length
            · have RD := Lib.hid (read_d D sF (by decide) k n (by omega) (by omega))
              rw [(P.read hi0 k n).1, (P.read hi0 k n).2] at RD
              have hpl : (⟨((T.drop k).take n).toArray⟩ : ByteArray).size ≤ n := by show ((T.drop k).take n).length ≤ n; simp; omega
              have hYN : Hid (Y ++ ⟨((T.drop k).take n).toArray⟩ = ⟨(T.take (k + n)).toArray⟩) := Lib.hid (by rw [HK.out.1, ba_app]; congr 1; simp [List.take_add])
              have hYl : (Y ++ ⟨((T.drop k).take n).toArray⟩).size ≤ 1000 := by rw [hYN.out]; show (T.take (k + n)).length ≤ 1000; simp; omega
              have HO := Lib.hid O
              have HP := Lib.hid P
              have HD := Lib.hid D
              have hkx : (k : Int) < (X.size : Int) := by omega
              generalize (⟨((T.drop k).take n).toArray⟩ : ByteArray) = PC at *
              have i3 : decide ((n : Int) < (PC.size : Int)) = false := by simp; omega
              clear HK P D O Q0 KB
              go_wp2_with fail
              refine RD.out.mono ?_
              rintro e w6 ⟨rfl, hb6⟩
              have KN : Hid (Y ++ PC = ⟨(T.take (k + n)).toArray⟩ ∧ LoopB w i T (w.heap.size + 2) d w6) := Lib.hid ⟨hYN.out, HP.out, HD.out.below hb6, HO.out.trans (Oth.of_below hb6)⟩
              clear RD hb6 hYN HP HD HO
              go_wp2
              go_roundw
              case rel => exact ⟨k + n, _, by omega, rfl, by go_num, hYl, KN⟩
              case measure => simp [intOf]; omega
            · have hkx : ¬ ((k : Int) < (X.size : Int)) := by omega
              have hYX : Hid (Y = X) := Lib.hid (by rw [HK.out.1, HX.out, List.take_of_length_le (by omega)])
              have YX := hYX.out
              subst YX
              have hdec : decide ((k : Int) < (Y.size : Int)) = false := by simpa using hkx
              have SZ := Lib.hid (fun w7 (D7 : Dsk (Fb w.heap.size) w7 (w.heap.size + 2) d 1000) => size_d D7 sF (by decide))
              rw [sF_list, (P.size.1 hi0).1, (P.size.1 hi0).2] at SZ
              have TC := Lib.hid (trunc_d D sF (by decide) c0)
              have HO := Lib.hid O
              by_cases hbad : c0 < 0 ∨ (T.length : Int) < c0
              · rw [((P.cut hi0 c0).1 hbad).1, ((P.cut hi0 c0).1 hbad).2] at TC
                clear HK P D O Q0 KB hYX HX
                by_cases hneg : c0 < 0
                · clear hbad
                  go_wp2_with fail
                  refine TC.out.mono ?_
                  rintro e w6 ⟨rfl, d6, o6⟩
                  have O6 := Lib.hid (HO.out.trans o6)
                  have S6 := Lib.hid (SZ.out w6 d6)
                  clear TC d6 o6 HO SZ
                  go_wp2_with fail
                  refine S6.out.mono ?_
                  rintro e w7 ⟨rfl, rfl⟩
                  have A8 := Lib.hid (awake_any w7)
                  clear S6
                  go_wp2_with fail
                  refine A8.out.mono ?_
                  rintro e w9 ⟨rfl, hb9⟩
                  have O9 := Lib.hid (O6.out.trans (Oth.of_below hb9))
                  clear A8 hb9 O6
                  go_wp2
                  go_ret
                  exact ⟨rfl, O9.out.fb (Nat.le_refl _)⟩
                · have hgt : (T.length : Int) < c0 := hbad.resolve_left hneg
                  have i4 : decide (c0 < 0) = false := by simpa using hneg
                  have i5 : (Y.size : Int) < c0 := by omega
                  clear hbad
                  go_wp2_with fail
                  refine TC.out.mono ?_
                  rintro e w6 ⟨rfl, d6, o6⟩
                  have O6 := Lib.hid (HO.out.trans o6)
                  have S6 := Lib.hid (SZ.out w6 d6)
                  clear TC d6 o6 HO SZ
                  go_wp2_with fail
                  refine S6.out.mono ?_
                  rintro e w7 ⟨rfl, rfl⟩
                  have A8 := Lib.hid (awake_any w7)
                  clear S6
                  go_wp2_with fail
                  refine A8.out.mono ?_
                  rintro e w9 ⟨rfl, hb9⟩
                  have O9 := Lib.hid (O6.out.trans (Oth.of_below hb9))
                  clear A8 hb9 O6
                  go_wp2
                  go_ret
                  exact ⟨rfl, O9.out.fb (Nat.le_refl _)⟩
              · have PC2 := ((P.cut hi0 c0).2 hbad).2
                rw [((P.cut hi0 c0).2 hbad).1] at TC
                obtain ⟨c, rfl⟩ : ∃ c : Nat, c0 = c := ⟨c0.toNat, by omega⟩
                have hcl : c ≤ T.length := by omega
                have htc : (T.take c).length = c := by simp; omega
                have hex : Hid ((⟨(((T.take c).drop 0).take 2000).toArray⟩ : ByteArray) = Y.extract 0 c) := Lib.hid (by
                  apply WideShapes.bytes_inj
                  rw [HX.out, List.drop_zero, List.take_of_length_le (l := T.take c) (by omega)]
                  simp)
                rw [Int.toNat_natCast] at PC2
                have HPC := Lib.hid PC2
                generalize truD d sF (c : Int) = D2 at *
                have i4 : decide ((c : Int) < 0) = false := by simp
                have i5 : decide ((Y.size : Int) < (c : Int)) = false := by simp; omega
                clear HK P D O Q0 KB hYX HX SZ PC2 hbad
                go_wp2_with fail
                refine TC.out.mono ?_
                rintro e w6 ⟨rfl, d6, o6⟩
                have O6 := Lib.hid (HO.out.trans o6)
                have K6 := Lib.hid d6
                have S6 := Lib.hid (size_d d6 sF (by decide))
                rw [sF_list, (HPC.out.size.1 hi0).1, (HPC.out.size.1 hi0).2, htc] at S6
                clear TC d6 o6 HO
                go_wp2_with fail
                refine S6.out.mono ?_
                rintro e w7 ⟨rfl, rfl⟩
                have R7 := Lib.hid (read_d K6.out sF (by decide) ((0 : Nat) : Int) ((2000 : Nat) : Int) (by omega) (by omega))
                rw [(HPC.out.read hi0 0 2000).1, (HPC.out.read hi0 0 2000).2, hex.out] at R7
                clear S6 K6
                go_wp2_with fail
                refine R7.out.mono ?_
                rintro e w8 ⟨rfl, hb8⟩
                have O8 := Lib.hid (O6.out.trans (Oth.of_below hb8))
                have A8 := Lib.hid (awake_any w8)
                clear R7 hb8 O6
                go_wp2_with fail
                refine A8.out.mono ?_
                rintro e w9 ⟨rfl, hb9⟩
                have O9 := Lib.hid (O8.out.trans (Oth.of_below hb9))
                clear A8 hb9 O8
                go_wp2
                go_ret
                exact ⟨rfl, O9.out.fb (Nat.le_refl _)⟩
        · have g1 : decide ((i : Int) < (ss.length : Int)) = false := by simp; omega
          clear hgo
          obtain ⟨d, P, D, O⟩ := HK.out.2
          have hX := HK.out.1
          have hcl := catL_len ss i
          have hTl : (catL ss i).length ≤ 1000 := by omega
          generalize catL ss i = T at *
          clear HK K0 Z0 HA HM hcl
          have KB : Hid (LoopB w i T (w.heap.size + 2) d wr) := Lib.hid ⟨P, D, O⟩
          have HX := Lib.hid hX
          have hXs : X.size = T.length := by rw [hX]; rfl
          clear P D O hX
          go_wp2_with fail
          have Q0 : Hid ((⟨#[]⟩ : ByteArray) = ⟨(T.take 0).toArray⟩) := Lib.hid (by simp)
          go_loopw [13, 14] (fun av iv w5 => ∃ (k : Nat) (Y : ByteArray), k ≤ 1100 ∧ av = .string Y ∧ iv = .int .i64 k ∧ Y.size ≤ 1000 ∧ Hid (Y = ⟨(T.take k).toArray⟩ ∧ LoopB w i T (w.heap.size + 2) d w5)) (fun _ iv _ => 1000 - (intOf iv).toNat)
          case atStart => exact ⟨0, _, by omega, rfl, rfl, by decide, Lib.hid ⟨Q0.out, KB.out⟩⟩
          case round =>
            obtain ⟨k, Y, hk, rfl, rfl, hYs, HK⟩ := hrel
            obtain ⟨P, D, O⟩ := HK.out.2
            by_cases hkT : k < T.length
            · have RD := Lib.hid (read_d D sF (by decide) k n (by omega) (by omega))
              rw [(P.read hi0 k n).1, (P.read hi0 k n).2] at RD
              have hpl : (⟨((T.drop k).take n).toArray⟩ : ByteArray).size ≤ n := by show ((T.drop k).take n).length ≤ n; simp; omega
              have hYN : Hid (Y ++ ⟨((T.drop k).take n).toArray⟩ = ⟨(T.take (k + n)).toArray⟩) := Lib.hid (by rw [HK.out.1, ba_app]; congr 1; simp [List.take_add])
              have hYl : (Y ++ ⟨((T.drop k).take n).toArray⟩).size ≤ 1000 := by rw [hYN.out]; show (T.take (k + n)).length ≤ 1000; simp; omega
              have HO := Lib.hid O
              have HP := Lib.hid P
              have HD := Lib.hid D
              have hkx : (k : Int) < (X.size : Int) := by omega
              generalize (⟨((T.drop k).take n).toArray⟩ : ByteArray) = PC at *
              have i3 : decide ((n : Int) < (PC.size : Int)) = false := by simp; omega
              clear HK P D O Q0 KB
              go_wp2_with fail
              refine RD.out.mono ?_
              rintro e w6 ⟨rfl, hb6⟩
              have KN : Hid (Y ++ PC = ⟨(T.take (k + n)).toArray⟩ ∧ LoopB w i T (w.heap.size + 2) d w6) := Lib.hid ⟨hYN.out, HP.out, HD.out.below hb6, HO.out.trans (Oth.of_below hb6)⟩
              clear RD hb6 hYN HP HD HO
              go_wp2
              go_roundw
              case rel => exact ⟨k + n, _, by omega, rfl, by go_num, hYl, KN⟩
              case measure => simp [intOf]; omega
            · have hkx : ¬ ((k : Int) < (X.size : Int)) := by omega
              have hYX : Hid (Y = X) := Lib.hid (by rw [HK.out.1, HX.out, List.take_of_length_le (by omega)])
              have YX := hYX.out
              subst YX
              have hdec : decide ((k : Int) < (Y.size : Int)) = false := by simpa using hkx
              have SZ := Lib.hid (fun w7 (D7 : Dsk (Fb w.heap.size) w7 (w.heap.size + 2) d 1000) => size_d D7 sF (by decide))
              rw [sF_list, (P.size.1 hi0).1, (P.size.1 hi0).2] at SZ
              have TC := Lib.hid (trunc_d D sF (by decide) c0)
              have HO := Lib.hid O
              by_cases hbad : c0 < 0 ∨ (T.length : Int) < c0
              · rw [((P.cut hi0 c0).1 hbad).1, ((P.cut hi0 c0).1 hbad).2] at TC
                clear HK P D O Q0 KB hYX HX
                by_cases hneg : c0 < 0
                · clear hbad
                  go_wp2_with fail
                  refine TC.out.mono ?_
                  rintro e w6 ⟨rfl, d6, o6⟩
                  have O6 := Lib.hid (HO.out.trans o6)
                  have S6 := Lib.hid (SZ.out w6 d6)
                  clear TC d6 o6 HO SZ
                  go_wp2_with fail
                  refine S6.out.mono ?_
                  rintro e w7 ⟨rfl, rfl⟩
                  have A8 := Lib.hid (awake_any w7)
                  clear S6
                  go_wp2_with fail
                  refine A8.out.mono ?_
                  rintro e w9 ⟨rfl, hb9⟩
                  have O9 := Lib.hid (O6.out.trans (Oth.of_below hb9))
                  clear A8 hb9 O6
                  go_wp2
                  go_ret
                  exact ⟨rfl, O9.out.fb (Nat.le_refl _)⟩
                · have hgt : (T.length : Int) < c0 := hbad.resolve_left hneg
                  have i4 : decide (c0 < 0) = false := by simpa using hneg
                  have i5 : (Y.size : Int) < c0 := by omega
                  clear hbad
                  go_wp2_with fail
                  refine TC.out.mono ?_
                  rintro e w6 ⟨rfl, d6, o6⟩
                  have O6 := Lib.hid (HO.out.trans o6)
                  have S6 := Lib.hid (SZ.out w6 d6)
                  clear TC d6 o6 HO SZ
                  go_wp2_with fail
                  refine S6.out.mono ?_
                  rintro e w7 ⟨rfl, rfl⟩
                  have A8 := Lib.hid (awake_any w7)
                  clear S6
                  go_wp2_with fail
                  refine A8.out.mono ?_
                  rintro e w9 ⟨rfl, hb9⟩
                  have O9 := Lib.hid (O6.out.trans (Oth.of_below hb9))
                  clear A8 hb9 O6
                  go_wp2
                  go_ret
                  exact ⟨rfl, O9.out.fb (Nat.le_refl _)⟩
              · have PC2 := ((P.cut hi0 c0).2 hbad).2
                rw [((P.cut hi0 c0).2 hbad).1] at TC
                obtain ⟨c, rfl⟩ : ∃ c : Nat, c0 = c := ⟨c0.toNat, by omega⟩
                have hcl : c ≤ T.length := by omega
                have htc : (T.take c).length = c := by simp; omega
                have hex : Hid ((⟨(((T.take c).drop 0).take 2000).toArray⟩ : ByteArray) = Y.extract 0 c) := Lib.hid (by
                  apply WideShapes.bytes_inj
                  rw [HX.out, List.drop_zero, List.take_of_length_le (l := T.take c) (by omega)]
                  simp)
                rw [Int.toNat_natCast] at PC2
                have HPC := Lib.hid PC2
                generalize truD d sF (c : Int) = D2 at *
                have i4 : decide ((c : Int) < 0) = false := by simp
                have i5 : decide ((Y.size : Int) < (c : Int)) = false := by simp; omega
                clear HK P D O Q0 KB hYX HX SZ PC2 hbad
                go_wp2_with fail
                refine TC.out.mono ?_
                rintro e w6 ⟨rfl, d6, o6⟩
                have O6 := Lib.hid (HO.out.trans o6)
                have K6 := Lib.hid d6
                have S6 := Lib.hid (size_d d6 sF (by decide))
                rw [sF_list, (HPC.out.size.1 hi0).1, (HPC.out.size.1 hi0).2, htc] at S6
                clear TC d6 o6 HO
                go_wp2_with fail
                refine S6.out.mono ?_
                rintro e w7 ⟨rfl, rfl⟩
                have R7 := Lib.hid (read_d K6.out sF (by decide) ((0 : Nat) : Int) ((2000 : Nat) : Int) (by omega) (by omega))
                rw [(HPC.out.read hi0 0 2000).1, (HPC.out.read hi0 0 2000).2, hex.out] at R7
                clear S6 K6
                go_wp2_with fail
                refine R7.out.mono ?_
                rintro e w8 ⟨rfl, hb8⟩
                have O8 := Lib.hid (O6.out.trans (Oth.of_below hb8))
                have A8 := Lib.hid (awake_any w8)
                clear R7 hb8 O6
                go_wp2_with fail
                refine A8.out.mono ?_
                rintro e w9 ⟨rfl, hb9⟩
                have O9 := Lib.hid (O8.out.trans (Oth.of_below hb9))
                clear A8 hb9 O8
                go_wp2
                go_ret
                exact ⟨rfl, O9.out.fb (Nat.le_refl _)⟩
end Go.Proofs.Ytaoifbdojleenaa
