/-
  MATHEMATICS of the law DiskSafe: what is done to other names leaves the file 'mine' as it was.
-/
import Derived.Test.YtfacobejgmnmpaaDkRenW
import Derived.Test.YtfacobejgmnmpaaDkPiecesM
import Derived.Test.YtfacobejgmnmpaaDkSm
namespace Go.Proofs.Ytfacobejgmnmpaa
open Go.RowKit Go.Maps

abbrev nM : Nm := [109, 105, 110, 101]
/-- The file 'mine' (block b) has these bytes, now and safe, by its name, now and safe; what else there is is small. -/
structure Sf (d : DS) (b : Nat) (F : Nm) (k : Nat) : Prop where
  dead : d.dead = false
  left : d.left < 0
  quota : d.quota = 100000
  nn : getD d.now nM = some b
  ns : getD d.safe nM = some b
  on : ∀ n, (n, b) ∈ d.now → n = nM
  fsb : d.fs b = (F, F)
  few : d.now.length ≤ k + 1
  small : ∀ n c, (n, c) ∈ d.now → (d.fs c).1.length ≤ 200 + 100 * k
theorem Sf.more {d : DS} {b : Nat} {F : Nm} {k : Nat} (h : Sf d b F k) : Sf d b F (k + 1) :=
  { h with few := by have := h.few; omega, small := fun n c hc => by have := h.small n c hc; omega }
theorem Sf.has {d : DS} {b : Nat} {F : Nm} {k : Nat} (h : Sf d b F k) : d.Has b := ⟨nM, .inl (getD_mem h.nn)⟩
theorem Sf.other {d : DS} {b : Nat} {F : Nm} {k : Nat} (h : Sf d b F k) {n : Nm} {c : Nat} (hn : n ≠ nM) (hg : getD d.now n = some c) : c ≠ b := fun e => hn (h.on n (by rw [← e]; exact getD_mem hg))
theorem fv_live {d : DS} (h : d.dead = false) (n : Nm) : findV d n = getD d.now n := by unfold findV; rw [h]; rfl
theorem Sf.app {d : DS} {b : Nat} {F : Nm} {k : Nat} (h : Sf d b F k) (hs : Srt d.now) {s t : ByteArray} {c : Nat} (hn : s.data.toList ≠ nM) (hc : ¬ d.Has c) (ht : t.size ≤ 100) : Sf (appD d s t c) b F (k + 1) := by
  have hl : ¬ d.left = 0 := by have := h.left; omega
  have htl : t.data.toList.length = t.size := by simp
  unfold appD
  rw [h.dead]
  simp only [Bool.false_eq_true, if_false]
  by_cases hok : okN s = false
  · rw [if_pos hok]; exact h.more
  · rw [if_neg hok]
    by_cases hr : roomE d s.data.toList t.size ≠ 0
    · rw [if_pos hr]; exact h.more
    · rw [if_neg hr, if_neg hl, dec_neg h.left]
      unfold wrD
      cases hg : getD d.now s.data.toList with
      | some x =>
        have hxb := h.other hn hg
        simp only
        refine { h with fsb := ?_, few := ?_, small := ?_ }
        · simp only [appF]; rw [upd_other _ _ (Ne.symm hxb)]; exact h.fsb
        · have := h.few; simp only [appF]; omega
        · intro n y hy
          simp only [appF] at hy ⊢
          have h0 := h.small n y hy
          by_cases e : y = x
          · rw [e, upd_same]
            rw [e] at h0
            simp only [List.length_append]
            omega
          · rw [upd_other _ _ e]; omega
      | none =>
        have hcb : c ≠ b := fun e => hc (e ▸ h.has)
        simp only
        refine { h with nn := ?_, on := ?_, fsb := ?_, few := ?_, small := ?_ }
        · simp only [newF]
          rw [getD_put_other _ hs _ (Ne.symm hn)]; exact h.nn
        · intro n hx
          simp only [newF] at hx
          rcases mem_putD.1 hx with e | ⟨e, _⟩
          · simp at e; exact absurd e.2.symm hcb
          · exact h.on n e
        · simp only [newF]; rw [upd_other _ _ (Ne.symm hcb)]; exact h.fsb
        · have h1 := length_putD d.now s.data.toList c
          have h2 := h.few
          simp only [newF]; omega
        · intro n y hy
          simp only [newF] at hy ⊢
          by_cases e : y = c
          · rw [e, upd_same]; simp only; omega
          · rw [upd_other _ _ e]
            rcases mem_putD.1 hy with e2 | ⟨e2, _⟩
            · simp at e2; exact absurd e2.2 e
            · have := h.small n y e2; omega
theorem Sf.fset {d : DS} {b : Nat} {F : Nm} {k : Nat} (h : Sf d b F k) {x : Nat} (hx : x ≠ b) {v : Nm × Nm} (hv : v.1.length ≤ 200 + 100 * k) : Sf { d with fs := upd d.fs x v } b F (k + 1) := by
  refine { h with fsb := ?_, few := ?_, small := ?_ }
  · simp only; rw [upd_other _ _ (Ne.symm hx)]; exact h.fsb
  · have := h.few; simp only; omega
  · intro n y hy
    simp only at hy ⊢
    have h0 := h.small n y hy
    by_cases e : y = x
    · rw [e, upd_same]; omega
    · rw [upd_other _ _ e]; omega
theorem Sf.tru {d : DS} {b : Nat} {F : Nm} {k : Nat} (h : Sf d b F k) {s : ByteArray} (hn : s.data.toList ≠ nM) (z : Int) : Sf (truD d s z) b F (k + 1) := by
  have hl : ¬ d.left = 0 := by have := h.left; omega
  unfold truD
  rw [fv_live h.dead]
  cases hg : getD d.now s.data.toList with
  | none => exact h.more
  | some x =>
    simp only
    split
    · exact h.more
    · rw [dec_neg h.left]
      exact h.fset (h.other hn hg) (by have := h.small _ _ (getD_mem hg); simp only [List.length_take]; omega)
theorem Sf.syn {d : DS} {b : Nat} {F : Nm} {k : Nat} (h : Sf d b F k) {s : ByteArray} (hn : s.data.toList ≠ nM) : Sf (synD d s) b F (k + 1) := by
  have hl : ¬ d.left = 0 := by have := h.left; omega
  unfold synD
  rw [fv_live h.dead]
  cases hg : getD d.now s.data.toList with
  | none => exact h.more
  | some x =>
    simp only
    rw [if_neg hl, dec_neg h.left]
    exact h.fset (h.other hn hg) (h.small _ _ (getD_mem hg))
theorem Sf.rem {d : DS} {b : Nat} {F : Nm} {k : Nat} (h : Sf d b F k) (hs : Srt d.now) {s : ByteArray} (hn : s.data.toList ≠ nM) : Sf (remD d s) b F (k + 1) := by
  have hl : ¬ d.left = 0 := by have := h.left; omega
  unfold remD
  rw [fv_live h.dead]
  cases hg : getD d.now s.data.toList with
  | none => exact h.more
  | some x =>
    simp only
    rw [if_neg hl, dec_neg h.left]
    exact { h with nn := by show getD (delD d.now s.data.toList) nM = some b; rw [getD_del_other _ hs (Ne.symm hn)]; exact h.nn, on := fun n hx => h.on n (mem_delD.1 hx).1, few := by have h1 := length_delD d.now s.data.toList; have h2 := h.few; show (delD d.now s.data.toList).length ≤ _; omega, small := fun n y hy => by have := h.small n y (mem_delD.1 hy).1; show (d.fs y).1.length ≤ _; omega }
theorem Sf.ren {d : DS} {b : Nat} {F : Nm} {k : Nat} (h : Sf d b F k) (hs : Srt d.now) {s t : ByteArray} (hn : s.data.toList ≠ nM) (ht : t.data.toList ≠ nM) : Sf (renD d s t) b F (k + 1) := by
  have hl : ¬ d.left = 0 := by have := h.left; omega
  unfold renD
  rw [fv_live h.dead]
  cases hg : getD d.now s.data.toList with
  | none => exact h.more
  | some x =>
    simp only
    split
    · exact h.more
    · rw [dec_neg h.left]
      have hxb := h.other hn hg
      refine { h with nn := ?_, on := ?_, few := ?_, small := ?_ }
      · simp only [renF]
        rw [getD_put_other _ (hs.del _) _ (Ne.symm ht), getD_del_other _ hs (Ne.symm hn)]; exact h.nn
      · intro n hx
        simp only [renF] at hx
        rcases mem_putD.1 hx with e | ⟨e, _⟩
        · simp at e; exact absurd e.2.symm hxb
        · exact h.on n (mem_delD.1 e).1
      · have h1 := length_putD (delD d.now s.data.toList) t.data.toList x
        have h2 := length_delD d.now s.data.toList
        have h3 := h.few
        simp only [renF]; omega
      · intro n y hy
        simp only [renF] at hy ⊢
        rcases mem_putD.1 hy with e | ⟨e, _⟩
        · simp at e
          rw [e.2]
          have := h.small _ _ (getD_mem hg); omega
        · have := h.small n y (mem_delD.1 e).1; omega
theorem Sf.sdir {d : DS} {b : Nat} {F : Nm} {k : Nat} (h : Sf d b F k) : Sf (sdD d) b F (k + 1) := by
  have hl : ¬ d.left = 0 := by have := h.left; omega
  unfold sdD
  rw [h.dead, if_neg hl, dec_neg h.left]
  exact { h.more with ns := h.nn }
/-- It takes what is appended to it. -/
theorem Sf.last {d : DS} {b : Nat} {F : Nm} {k : Nat} (h : Sf d b F k) (hk : k ≤ 30) (hF : F.length ≤ 200) {t : ByteArray} (ht : t.size ≤ 200) (c : Nat) :
    appE d ⟨#[109, 105, 110, 101]⟩ t = 0 ∧ appD d ⟨#[109, 105, 110, 101]⟩ t c = { d with fs := Go.Proofs.Ytfacobejgmnmpaa.upd d.fs b (F ++ t.data.toList, F) } := by
  have hl : ¬ d.left = 0 := by have := h.left; omega
  have ok : okN ⟨#[109, 105, 110, 101]⟩ = true := by decide
  have hs : (⟨#[109, 105, 110, 101]⟩ : ByteArray).data.toList = nM := rfl
  have hu : usedD d ≤ (200 + 100 * k) * d.now.length := sum_le_mul d.now (lenNow d) _ (fun p hp => h.small p.1 p.2 hp)
  have hfew := h.few
  have hu2 : usedD d ≤ 99200 := by
    have h1 : (200 + 100 * k) * d.now.length ≤ (200 + 100 * k) * (k + 1) := Nat.mul_le_mul_left _ hfew
    have h2 : (200 + 100 * k) * (k + 1) ≤ 3200 * 31 := Nat.mul_le_mul (by omega) (by omega)
    omega
  have hr : roomE d nM t.size = 0 := by
    rw [roomE_low _ _ _ (by rw [h.nn]; simp), h.quota]
    have hh : hasL d nM = F.length := by unfold hasL; rw [h.nn]; simp only; rw [h.fsb]
    rw [hh, if_neg (by omega), if_neg (by omega)]
  constructor
  · unfold appE
    rw [h.dead, ok, hs, hr]
    simp [hl]
  · unfold appD
    rw [h.dead, ok, hs, hr]
    simp only [Bool.false_eq_true, if_false, ne_eq, not_true, if_neg hl, dec_neg h.left, reduceCtorEq]
    unfold wrD
    rw [h.nn]
    simp only [appF]
    rw [h.fsb]
    simp [h.dead]
/-- What a crash may leave of F with M behind it. -/
def Lv (F M G : Nm) : Prop := ∃ x, x ≤ M.length ∧ G = F ++ M.take x
theorem crN_lv (F M : Nm) (k : Nat) : Lv F M (crN (F ++ M) F k) := by
  unfold crN
  rw [if_pos (by simp)]
  refine ⟨min k M.length, Nat.min_le_right _ _, ?_⟩
  have e : (F ++ M).length - F.length = M.length := by simp
  rw [e, List.take_append, List.take_of_length_le (by omega)]
  simp
theorem crTo_lv {d : DS} {ks : List Int} {b : Nat} {F M : Nm} (h : d.fs b = (F ++ M, F)) : ∀ i, ((crTo d ks i).fs b = (F ++ M, F) ∧ ∀ p ∈ d.now.take i, p.2 ≠ b) ∨ ∃ G, (crTo d ks i).fs b = (G, G) ∧ Lv F M G
  | 0 => .inl ⟨h, fun p hp => by simp at hp⟩
  | i + 1 => by
    have ih := crTo_lv (ks := ks) h i
    unfold crTo
    split
    · rename_i p hp
      have htk : d.now.take (i + 1) = d.now.take i ++ [p] := by
        obtain ⟨hlt, e⟩ := List.getElem?_eq_some_iff.1 hp
        rw [List.take_succ_eq_append_getElem hlt, e]
      unfold crF
      simp only []
      by_cases e : b = p.2
      · rw [e, upd_same, ← e]
        rcases ih with ⟨h1, _⟩ | ⟨G, h1, h2⟩
        · rw [h1]
          exact .inr ⟨_, rfl, crN_lv F M _⟩
        · rw [h1]
          exact .inr ⟨G, by simp [crN_same], h2⟩
      · rw [upd_other _ _ e]
        rcases ih with ⟨h1, h2⟩ | h1
        · refine .inl ⟨h1, ?_⟩
          intro q hq
          rw [htk] at hq
          rcases List.mem_append.1 hq with hq | hq
          · exact h2 q hq
          · simp at hq
            rw [hq]; exact Ne.symm e
        · exact .inr h1
    · rename_i hp
      rcases ih with ⟨h1, h2⟩ | h1
      · refine .inl ⟨h1, ?_⟩
        rw [List.take_of_length_le (by have := List.getElem?_eq_none_iff.1 hp; omega)]
        rw [List.take_of_length_le (by have := List.getElem?_eq_none_iff.1 hp; omega)] at h2
        exact h2
      · exact .inr h1
/-- Behind the crash the file is there, with what was safe and a part of what was not. -/
theorem Sf.crash {d : DS} {b : Nat} {F : Nm} {k : Nat} (h : Sf d b F k) (M : Nm) (ks : List Int) (nm : Bool) :
    ∃ G, Lv F M G ∧ (crashD { d with fs := Go.Proofs.Ytfacobejgmnmpaa.upd d.fs b (F ++ M, F) } ks nm).dead = false ∧ getD (crashD { d with fs := Go.Proofs.Ytfacobejgmnmpaa.upd d.fs b (F ++ M, F) } ks nm).now nM = some b ∧ (crashD { d with fs := Go.Proofs.Ytfacobejgmnmpaa.upd d.fs b (F ++ M, F) } ks nm).fs b = (G, G) := by
  have key : ∀ d1 : DS, d1.fs b = (F ++ M, F) → getD d1.now nM = some b → ∃ G, Lv F M G ∧ getD (crTo d1 ks d1.now.length).now nM = some b ∧ (crTo d1 ks d1.now.length).fs b = (G, G) := by
    intro d1 h1 h2
    rcases crTo_lv (ks := ks) h1 d1.now.length with ⟨_, h3⟩ | ⟨G, h3, h4⟩
    · rw [List.take_length] at h3
      exact absurd rfl (h3 _ (getD_mem h2))
    · exact ⟨G, h4, by rw [(crTo_now d1 ks _).1]; exact h2, h3⟩
  cases nm
  · obtain ⟨G, g1, g2, g3⟩ := key { d with fs := Go.Proofs.Ytfacobejgmnmpaa.upd d.fs b (F ++ M, F), now := d.safe } (upd_same _ _ _) h.ns
    exact ⟨G, g1, rfl, g2, g3⟩
  · obtain ⟨G, g1, g2, g3⟩ := key { d with fs := Go.Proofs.Ytfacobejgmnmpaa.upd d.fs b (F ++ M, F) } (upd_same _ _ _) h.nn
    exact ⟨G, g1, rfl, g2, g3⟩
theorem lv_len {F M G : Nm} (h : Lv F M G) : F.length ≤ G.length ∧ G.length ≤ F.length + M.length ∧ (F ++ M).take G.length = G := by
  obtain ⟨x, hx, rfl⟩ := h
  refine ⟨by simp, by simp; omega, ?_⟩
  simp only [List.length_append, List.length_take, Nat.min_eq_left hx]
  rw [List.take_append, List.take_of_length_le (by omega)]
  simp
theorem read_lv {d : DS} {b : Nat} {G : Nm} (hd : d.dead = false) (hg : getD d.now nM = some b) (hf : d.fs b = (G, G)) (hl : G.length ≤ 1000) : readS d ⟨#[109, 105, 110, 101]⟩ 0 1000 = ⟨G.toArray⟩ ∧ readE d ⟨#[109, 105, 110, 101]⟩ 0 1000 = 0 := by
  have hs : (⟨#[109, 105, 110, 101]⟩ : ByteArray).data.toList = nM := rfl
  constructor
  · unfold readS
    rw [hs, fv_live hd, hg]
    simp only [hf]
    rw [if_neg (by omega)]
    simp only [Int.toNat_zero, List.drop_zero]
    rw [List.take_of_length_le (by show G.length ≤ 1000; omega)]
  · unfold readE
    rw [hs]
    have : findE d nM = 0 := by unfold findE; rw [hd, hg]; rfl
    rw [this]
    simp
end Go.Proofs.Ytfacobejgmnmpaa
