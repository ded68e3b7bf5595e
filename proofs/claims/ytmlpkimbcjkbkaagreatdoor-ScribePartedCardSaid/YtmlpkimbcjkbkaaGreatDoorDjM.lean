/-
  MATHEMATICS of the journal on a disk that isn't armed: what Save and Load make of it.
-/
import Derived.Test.YtmlpkimbcjkbkaaGreatDoorDkW9
import Derived.Lib.BufferRead
namespace Go.Proofs.YtmlpkimbcjkbkaaGreatDoor
open Go.RowKit Go.Maps

variable {Fp : Nat → Prop} {w : World} {Bd mn ms : Nat} {vs : Nat → Value × Value} {d : DS} {m : Nat}
def readE (d : DS) (s : ByteArray) (a n : Int) : Int := if findE d s.data.toList ≠ 0 then findE d s.data.toList else if a < 0 ∨ n < 0 then 1 else 0
def readS (d : DS) (s : ByteArray) (a n : Int) : ByteArray := match findV d s.data.toList with
  | none => ⟨#[]⟩
  | some b => if a < 0 ∨ n < 0 then ⟨#[]⟩ else ⟨(((d.fs b).1.drop a.toNat).take n.toNat).toArray⟩
theorem row_conv {g : Nat} {cur : Array Value} {l : List UInt8} (hb : Row w g cur) (ht : cur.toList.take l.length = Lib.byteCells l) (A M c : Nat) (hA : A + M ≤ l.length) :
    (convert 109 9 (.slice (some ((⟨g, 0, none⟩ : Addr).add A)) M c)).run Tryz.prog w = .ok (.string ⟨((l.drop A).take M).toArray⟩) w := by
  obtain ⟨fz, _, hb⟩ := hb
  have hl : ((l.drop A).take M).length = M := by simp; omega
  have := run_convert_bytes_back (P := Tryz.prog) w 109 9 5 ((⟨g, 0, none⟩ : Addr).add A) c ((l.drop A).take M) Tryz.underlying109 Tryz.underlying5 Tryz.underlying9 (by
    intro j hj
    rw [hl] at hj
    have e1 : ((⟨g, 0, none⟩ : Addr).add A).add j = ⟨g, A + j, none⟩ := by
      unfold Addr.add
      by_cases h1 : A = 0 <;> by_cases h2 : j = 0 <;> simp [h1, h2]
    rw [e1, block_cell hb]
    have e2 : cur[A + j]? = (cur.toList.take l.length)[A + j]? := by
      rw [List.getElem?_take, if_pos (by omega)]; simp
    rw [e2, ht]
    simp only [Lib.byteCells, List.getElem?_map]
    rw [List.getElem?_eq_getElem (by omega)]
    simp)
  rw [hl] at this
  exact this
set_option maxHeartbeats 4000000 in
set_option maxRecDepth 100000 in
theorem read_any (h : DV Fp w Bd mn ms vs d m) (s : ByteArray) (hs : s.size ≤ 9223372036854775807) (a n : Int) (ha : a ≤ 9223372036854775807) (hn : n ≤ 9223372036854775807) :
    Calls Tryz.prog 27 #[.pointer (some ⟨Bd, 0, none⟩), .string s, .int .i64 a, .int .i64 n] w fun e w' => e = .returned (.tuple #[.string (readS d s a n), .int .i64 (readE d s a n)]) ∧ Below w.heap.size w w' := by
  have FD := Lib.hid (find_any h s hs)
  cases hv : findV d s.data.toList with
  | none =>
    have he := find_none hv
    have he0 : (findE d s.data.toList != 0) = true := by simpa using he
    have e1 : readS d s a n = ⟨#[]⟩ := by simp [readS, hv]
    have e2 : readE d s a n = findE d s.data.toList := by simp [readE, he]
    rw [e1, e2]
    rw [hv] at FD
    unfold ptrV at FD
    generalize findE d s.data.toList = er at *
    clear h hv he e1 e2 ha hn
    go_enter Tryz.func27, Tryz.ntmps27
    go_wp2_with (refine FD.out.mono ?_; rintro e w1 ⟨rfl, rfl⟩)
    refine bodyPost_ret (results_tmp2 rfl _ _ _) rfl ?_
    exact ⟨rfl, Below.refl _ _⟩
  | some b =>
    obtain ⟨he, hg, hd⟩ := find_some hv
    rw [hv, he] at FD
    unfold ptrV at FD
    by_cases hneg : a < 0 ∨ n < 0
    · have e1 : readS d s a n = ⟨#[]⟩ := by simp only [readS, hv]; rw [if_pos hneg]
      have e2 : readE d s a n = 1 := by unfold readE; rw [if_neg (by simp [he]), if_pos hneg]
      rw [e1, e2]
      clear h hv he e1 e2 ha hn
      by_cases h1 : a < 0
      · go_enter Tryz.func27, Tryz.ntmps27
        go_wp2_with (refine FD.out.mono ?_; rintro e w1 ⟨rfl, rfl⟩)
        refine bodyPost_ret (results_tmp2 rfl _ _ _) rfl ?_
        exact ⟨rfl, Below.refl _ _⟩
      · have h2 : n < 0 := hneg.resolve_left h1
        have h1' : decide (a < 0) = false := by simpa using h1
        clear hneg
        go_enter Tryz.func27, Tryz.ntmps27
        go_wp2_with (refine FD.out.mono ?_; rintro e w1 ⟨rfl, rfl⟩)
        refine bodyPost_ret (results_tmp2 rfl _ _ _) rfl ?_
        exact ⟨rfl, Below.refl _ _⟩
    · have hf := h.files b (h.has_of_get hg)
      have hl := (h.lens b (h.has_of_get hg)).1
      have f0 := hf.c0
      have e2 : readE d s a n = 0 := by unfold readE; rw [if_neg (by simp [he]), if_neg hneg]
      rw [e2]
      obtain ⟨a0, rfl⟩ : ∃ a0 : Nat, a = a0 := ⟨a.toNat, by omega⟩
      obtain ⟨n0, rfl⟩ : ∃ n0 : Nat, n = n0 := ⟨n.toNat, by omega⟩
      have e1 : readS d s a0 n0 = ⟨(((d.fs b).1.drop a0).take n0).toArray⟩ := by simp only [readS, hv]; rw [if_neg hneg]; rfl
      rw [e1]
      clear hneg hn ha
      obtain ⟨A, hA1, hA2, hA3⟩ : ∃ A : Nat, min (a0 : Int) ((d.fs b).1.length : Int) = (A : Int) ∧ A ≤ (d.fs b).1.length ∧ (d.fs b).1.drop a0 = (d.fs b).1.drop A := ⟨min a0 (d.fs b).1.length, by omega, by omega, by
        by_cases hx : a0 ≤ (d.fs b).1.length
        · rw [Nat.min_eq_left hx]
        · rw [Nat.min_eq_right (by omega), List.drop_eq_nil_of_le (by omega), List.drop_length]⟩
      obtain ⟨M, hM1, hM2, hM3⟩ : ∃ M : Nat, min (n0 : Int) (((d.fs b).1.length - A : Nat) : Int) = (M : Int) ∧ A + M ≤ (d.fs b).1.length ∧ ((d.fs b).1.drop A).take n0 = ((d.fs b).1.drop A).take M := ⟨min n0 ((d.fs b).1.length - A), by omega, by omega, by
        by_cases hx : n0 ≤ (d.fs b).1.length - A
        · rw [Nat.min_eq_left hx]
        · rw [Nat.min_eq_right (by omega), List.take_of_length_le (by simp; omega), List.take_of_length_le (by simp)]⟩
      rw [hA3, hM3]
      have fin : ∀ (W : World), Below w.heap.size w W.drew → Below w.heap.size w W.drew := fun _ h => h
      clear fin
      rcases hf.s1 with ⟨hv1, hl0⟩ | ⟨g, cap, cur, hv1, hgb, h1, h2, h3, h4⟩
      · rw [hv1] at f0
        have hm0 : min (n0 : Int) 0 = 0 := by omega
        have hma : min (a0 : Int) 0 = 0 := by omega
        have hcw := Lib.run_convert_nil_bytes (P := Tryz.prog) w.drew 109 9 5 0 Tryz.underlying109 Tryz.underlying5 Tryz.underlying9
        rw [hl0] at hA1 hA2 hM1 hM2 ⊢
        simp only [List.length_nil] at hA1 hA2 hM1 hM2
        obtain rfl : A = 0 := by omega
        obtain rfl : M = 0 := by omega
        clear hv he e1 e2 hg hd hf h hv1 hA3 hM3 hl0 hl
        go_enter Tryz.func27, Tryz.ntmps27
        go_wp2_with (refine FD.out.mono ?_; rintro e w1 ⟨rfl, rfl⟩)
        go_region
        all_goals
          go_wp2
          refine bodyPost_ret (results_tmp2 rfl _ _ _) rfl ?_
          exact ⟨rfl, (Below.refl _ _).drew⟩
      · by_cases hcA : cap = A
        · have hLA : (d.fs b).1.length = A := by omega
          obtain rfl : M = 0 := by omega
          have hcw := row_conv (w := w.drew) hgb h4 0 0 0 (by omega)
          have e0 : (⟨g, 0, none⟩ : Addr).add 0 = ⟨g, 0, none⟩ := rfl
          rw [e0, List.take_zero] at hcw
          have hm0 : min (n0 : Int) 0 = 0 := by omega
          rw [List.take_zero]
          rw [hv1] at f0
          rw [hLA] at f0 hA1 hA2 hM1
          subst hcA
          clear hv he e1 e2 hg hd hf h hv1 h4 hA3 hM3 hgb hLA
          go_enter Tryz.func27, Tryz.ntmps27
          go_wp2_with (refine FD.out.mono ?_; rintro e w1 ⟨rfl, rfl⟩)
          go_region
          all_goals
            go_wp2
            refine bodyPost_ret (results_tmp2 rfl _ _ _) rfl ?_
            exact ⟨rfl, (Below.refl _ _).drew⟩
        · have hcd : Row w.drew g cur := hgb
          have hcw := row_conv hcd h4 A M (cap - A) hM2
          have e0 : (⟨g, 0, none⟩ : Addr).add A = ⟨g, A, none⟩ := by unfold Addr.add; split <;> simp_all
          rw [e0] at hcw
          rw [hv1] at f0
          generalize hR : (⟨(((d.fs b).1.drop A).take M).toArray⟩ : ByteArray) = R at *
          generalize (d.fs b).1.length = L at *
          clear hv he e1 e2 hg hd hf h hv1 h4 hR hA3 hM3 hgb hcd
          go_enter Tryz.func27, Tryz.ntmps27
          go_wp2_with (refine FD.out.mono ?_; rintro e w1 ⟨rfl, rfl⟩)
          go_region
          all_goals
            go_wp2
            refine bodyPost_ret (results_tmp2 rfl _ _ _) rfl ?_
            exact ⟨rfl, (Below.refl _ _).drew⟩
end Go.Proofs.YtmlpkimbcjkbkaaGreatDoor

namespace Go.Proofs.YtmlpkimbcjkbkaaGreatDoor
open Go.RowKit Go.Maps

variable {Fp : Nat → Prop} {w : World} {Bd : Nat} {d : DS} {m : Nat}
theorem Dsk.below {w' : World} (h : Dsk Fp w Bd d m) (hb : Below w.heap.size w w') : Dsk Fp w' Bd d m := by
  obtain ⟨a, b, c, hne, hD⟩ := h
  exact ⟨a, b, c, hne, hD.below hb⟩
theorem Dsk.wider (h : Dsk Fp w Bd d m) {Fq : Nat → Prop} (hq : ∀ j, j < w.heap.size → Fp j → Fq j) : Dsk Fq w Bd d m := by
  obtain ⟨a, b, c, hne, hD⟩ := h
  exact ⟨a, b, c, hne, hD.wider hq⟩
theorem Dsk.more (h : Dsk Fp w Bd d m) {k : Nat} (hk : m ≤ k) (hk2 : k ≤ 100000) : Dsk Fp w Bd d k := by
  obtain ⟨a, b, c, hne, hD⟩ := h
  exact ⟨a, b, c, hne, hD.more hk hk2⟩
theorem Dsk.lt (h : Dsk Fp w Bd d m) : Bd < w.heap.size := by
  obtain ⟨a, b, c, hne, hD⟩ := h
  exact hD.ltB
theorem append_d (h : Dsk Fp w Bd d m) (hF : Up Fp w) (s t : ByteArray) (hs : s.size ≤ 9223372036854775807) (ht : t.size ≤ 100000000) (hm : 100 ≤ m) :
    Calls Tryz.prog 21 #[.pointer (some ⟨Bd, 0, none⟩), .string s, .string t] w fun e w' => e = .returned (.int .i64 (appE d s t)) ∧ ∃ b, ¬ d.Has b ∧ OpPost Fp w Bd (appD d s t b) m w' := by
  obtain ⟨a, b, c, hne, hD⟩ := h
  exact append_any hD hne hF s hs t ht hm
theorem sync_d (h : Dsk Fp w Bd d m) (s : ByteArray) (hs : s.size ≤ 9223372036854775807) :
    Calls Tryz.prog 23 #[.pointer (some ⟨Bd, 0, none⟩), .string s] w fun e w' => e = .returned (.int .i64 (synE d s)) ∧ OpPost Fp w Bd (synD d s) m w' := by
  obtain ⟨a, b, c, hne, hD⟩ := h
  exact sync_any hD hne s hs
theorem sdir_d (h : Dsk Fp w Bd d m) (hF : Up Fp w) :
    Calls Tryz.prog 25 #[.pointer (some ⟨Bd, 0, none⟩)] w fun e w' => e = .returned (.int .i64 (sdE d)) ∧ OpPost Fp w Bd (sdD d) m w' := by
  obtain ⟨a, b, c, hne, hD⟩ := h
  exact sdir_any hD hne hF
theorem read_d (h : Dsk Fp w Bd d m) (s : ByteArray) (hs : s.size ≤ 9223372036854775807) (x n : Int) (hx : x ≤ 9223372036854775807) (hn : n ≤ 9223372036854775807) :
    Calls Tryz.prog 27 #[.pointer (some ⟨Bd, 0, none⟩), .string s, .int .i64 x, .int .i64 n] w fun e w' => e = .returned (.tuple #[.string (readS d s x n), .int .i64 (readE d s x n)]) ∧ Below w.heap.size w w' := by
  obtain ⟨a, b, c, hne, hD⟩ := h
  exact read_any hD s hs x n hx hn
theorem used_d (h : Dsk Fp w Bd d m) : Calls Tryz.prog 84 #[.pointer (some ⟨Bd, 0, none⟩)] w fun e w' => e = .returned (.int .i64 (usedD d)) ∧ Below w.heap.size w w' := by
  obtain ⟨a, b, c, hne, hD⟩ := h
  exact used_any hD
theorem quota_d (h : Dsk Fp w Bd d m) (q : Int) (hq : q ≤ 9223372036854775807) :
    Calls Tryz.prog 19 #[.pointer (some ⟨Bd, 0, none⟩), .int .i64 q] w fun e w' => e = .returned (.tuple #[]) ∧ OpPost Fp w Bd (qDS d q) m w' := by
  obtain ⟨a, b, c, hne, hD⟩ := h
  exact (quota_any hD q hq).mono (fun e w' ⟨h1, h2, h3⟩ => ⟨h1, ⟨_, _, _, hne, h2⟩, h3⟩)
theorem size_d (h : Dsk Fp w Bd d m) (s : ByteArray) (hs : s.size ≤ 9223372036854775807) :
    Calls Tryz.prog 26 #[.pointer (some ⟨Bd, 0, none⟩), .string s] w fun e w' => e = .returned (.tuple #[.int .i64 (sizeR d s.data.toList), .int .i64 (findE d s.data.toList)]) ∧ w' = w := by
  obtain ⟨a, b, c, hne, hD⟩ := h
  exact size_any hD s hs
theorem ren_d (h : Dsk Fp w Bd d m) (s t : ByteArray) (hs : s.size ≤ 9223372036854775807) (ht : t.size ≤ 9223372036854775807) :
    Calls Tryz.prog 24 #[.pointer (some ⟨Bd, 0, none⟩), .string s, .string t] w fun e w' => e = .returned (.int .i64 (renE d s t)) ∧ OpPost Fp w Bd (renD d s t) m w' := by
  obtain ⟨a, b, c, hne, hD⟩ := h
  exact ren_any hD hne s hs t ht
theorem rem_d (h : Dsk Fp w Bd d m) (s : ByteArray) (hs : s.size ≤ 9223372036854775807) :
    Calls Tryz.prog 47 #[.pointer (some ⟨Bd, 0, none⟩), .string s] w fun e w' => e = .returned (.int .i64 (remE d s)) ∧ OpPost Fp w Bd (remD d s) m w' := by
  obtain ⟨a, b, c, hne, hD⟩ := h
  exact rem_any hD hne s hs
theorem new_d (w : World) (hF : Up Fp w) (q : Int) (hq : q ≤ 9223372036854775807) (m : Nat) (hm : m ≤ 100000) :
    Calls Tryz.prog 9 #[.int .i64 q] w fun e w' => e = .returned (.pointer (some ⟨w.heap.size + 2, 0, none⟩)) ∧ OpPost Fp w (w.heap.size + 2) (newDS q) m w' :=
  (dnew_any w hF q hq m hm).mono (fun _ _ ⟨h1, h2, h3⟩ => ⟨h1, h2, Oth.of_below h3⟩)
/-- The disk's blocks are those from B on. -/
def Fb (B : Nat) : Nat → Prop := fun j => B ≤ j
theorem Fb_up {B : Nat} (h : B ≤ w.heap.size) : Up (Fb B) w := fun _ hk => Nat.le_trans h hk
theorem Oth.fb {B : Nat} {w' : World} (h : Oth (Fb B) w w') (hB : B ≤ w.heap.size) : Below B w w' := h.below (fun _ hk => hk) hB
end Go.Proofs.YtmlpkimbcjkbkaaGreatDoor

namespace Go.Proofs.YtmlpkimbcjkbkaaGreatDoor
open Go.RowKit Go.Maps

theorem bounds_i64 {n : Int} (h : (Lit.int .i64 n).wf = true) : -9223372036854775808 ≤ n ∧ n ≤ 9223372036854775807 := by
  simpa [Lit.wf, IntKind.min, IntKind.max, IntKind.bits, IntKind.signed] using h
structure Smd (d : DS) (q : Int) (U k : Nat) : Prop where
  dead : d.dead = false
  left : d.left < 0
  quota : d.quota = q
  used : usedD d = U
  few : d.now.length ≤ k
  srt : Srt d.now
theorem sum_ins (g : Nm × Nat → Nat) (n : Nm) (b : Nat) : ∀ l : Dir, ((ins n b l).map g).sum = g (n, b) + (l.map g).sum
  | [] => rfl
  | x :: r => by
    unfold ins
    split
    · rfl
    · simp only [List.map_cons, List.sum_cons, sum_ins g n b r]; omega
theorem del_none {l : Dir} {n : Nm} (h : getD l n = none) : delD l n = l := by
  unfold delD
  exact List.filter_eq_self.2 (fun p hp => by simpa using getD_none h p hp)
theorem used_new {d : DS} {n t : Nm} {b : Nat} (hn : getD d.now n = none) (hb : ¬ d.Has b) : usedD (newF d n b t) = usedD d + t.length := by
  unfold usedD newF
  simp only []
  rw [putD, del_none hn, sum_ins]
  have e1 : lenNow { d with now := ins n b d.now, fs := upd d.fs b (t, []) } (n, b) = t.length := by simp [lenNow, upd_same]
  have e2 : d.now.map (lenNow { d with now := ins n b d.now, fs := upd d.fs b (t, []) }) = d.now.map (lenNow d) := by
    apply List.map_congr_left
    intro p hp
    have : p.2 ≠ b := fun e => hb ⟨p.1, .inl (by rw [← e]; exact hp)⟩
    simp [lenNow, upd_other _ _ this]
  rw [e1, e2]
  omega
theorem dec_neg {d : DS} (h : d.left < 0) : decD d = d := by unfold decD; rw [if_neg (by omega)]
theorem Smd.app {d : DS} {q : Int} {U k : Nat} (h : Smd d q U k) {s t : ByteArray} {b : Nat} (hs : okN s = true) (hn : getD d.now s.data.toList = none) (hb : ¬ d.Has b) (ht : t.size ≤ 1048576) (hk : k < 100) :
    ((t.size : Int) ≤ q - U → appE d s t = 0 ∧ Smd (appD d s t b) q (U + t.size) (k + 1) ∧ getD (appD d s t b).now s.data.toList = some b ∧ (∀ x, x ≠ s.data.toList → getD (appD d s t b).now x = getD d.now x) ∧ appD d s t b = newF d s.data.toList b t.data.toList) ∧
    (¬ (t.size : Int) ≤ q - U → appE d s t = 7 ∧ appD d s t b = d) := by
  have hl : ¬ d.left = 0 := by have := h.left; omega
  have hr : roomE d s.data.toList t.size = if q - (U : Int) < t.size then 7 else 0 := by
    have := h.few
    rw [roomE_low _ _ _ (by rw [hn]; simp; omega), h.quota, h.used]
    have hh : hasL d s.data.toList = 0 := by unfold hasL; rw [hn]
    rw [hh]
    split
    · rfl
    · rw [if_neg (by simp; omega)]
  constructor
  · intro hfit
    rw [if_neg (by omega)] at hr
    have hD : appD d s t b = newF d s.data.toList b t.data.toList := by
      unfold appD
      rw [h.dead, hs, hr]
      simp only [Bool.false_eq_true, if_false, ne_eq, not_true, if_neg hl, dec_neg h.left]
      unfold wrD
      rw [hn]
      simp
    refine ⟨by unfold appE; rw [h.dead, hs, hr]; simp [hl], ?_, ?_, ?_, hD⟩
    · rw [hD]
      exact ⟨h.dead, h.left, h.quota, by rw [used_new hn hb, h.used]; simp, by have := length_putD d.now s.data.toList b; have := h.few; show (putD d.now s.data.toList b).length ≤ k + 1; omega, h.srt.put _ _⟩
    · rw [hD]; exact getD_put_same _ h.srt _ _
    · intro x hx
      rw [hD]; exact getD_put_other _ h.srt _ hx
  · intro hfit
    rw [if_pos (by omega)] at hr
    exact ⟨by unfold appE; rw [h.dead, hs, hr]; simp, by unfold appD; rw [h.dead, hs, hr]; simp⟩
def Case (q : Int) (U t : Nat) (E : Int) (V : Nat) : Prop := ((t : Int) ≤ q - U ∧ E = 0 ∧ V = U + t) ∨ (¬ (t : Int) ≤ q - U ∧ E = 7 ∧ V = U)
theorem Dsk.fresh {Fp : Nat → Prop} {w : World} {Bd : Nat} {d : DS} {m : Nat} (h : Dsk Fp w Bd d m) : ¬ d.Has w.heap.size := by
  obtain ⟨_, _, _, _, hD⟩ := h
  exact hD.fresh
theorem Smd.next {d : DS} {q : Int} {U k : Nat} (h : Smd d q U k) {s t : ByteArray} {b : Nat} (hs : okN s = true) (hn : getD d.now s.data.toList = none) (hb : ¬ d.Has b) (ht : t.size ≤ 1048576) (hk : k < 100) {E : Int} {V : Nat} (hc : Case q U t.size E V) :
    appE d s t = E ∧ Smd (appD d s t b) q V (k + 1) ∧ ∀ x, x ≠ s.data.toList → getD d.now x = none → getD (appD d s t b).now x = none := by
  obtain ⟨h1, h2⟩ := h.app hs hn hb ht hk
  rcases hc with ⟨hf, rfl, rfl⟩ | ⟨hf, rfl, rfl⟩
  · obtain ⟨e, S, _, g, _⟩ := h1 hf
    exact ⟨e, S, fun x hx hn => by rw [g x hx]; exact hn⟩
  · obtain ⟨e, hd⟩ := h2 hf
    rw [hd]
    exact ⟨e, ⟨h.dead, h.left, h.quota, h.used, Nat.le_succ_of_le h.few, h.srt⟩, fun x _ hn => hn⟩
theorem Smd.quo {d : DS} {q : Int} {U k : Nat} (h : Smd d q U k) (r : Int) (hr : 0 ≤ r) : Smd (qDS d r) r U k := ⟨h.dead, h.left, by show max r 0 = r; omega, h.used, h.few, h.srt⟩
theorem sm_new (q : Int) (hq : 0 ≤ q) : Smd (newDS q) q 0 0 := ⟨rfl, by show (-1 : Int) < 0; omega, by show max q 0 = q; omega, rfl, Nat.le_refl _, List.Pairwise.nil⟩
end Go.Proofs.YtmlpkimbcjkbkaaGreatDoor

namespace Go.Proofs.YtmlpkimbcjkbkaaGreatDoor
open Go.RowKit Go.Maps

def nJ : Nm := [106, 111, 117, 114, 110, 97, 108]
def nT : Nm := [106, 111, 117, 114, 110, 97, 108, 46, 110, 101, 119]
theorem nJT : nJ < nT := by decide
theorem nJT' : ¬ nT < nJ := by decide
theorem nJneT : nJ ≠ nT := by decide
abbrev sJ : ByteArray := ⟨#[106, 111, 117, 114, 110, 97, 108]⟩
abbrev sT : ByteArray := ⟨#[106, 111, 117, 114, 110, 97, 108, 46, 110, 101, 119]⟩
theorem sJ_list : sJ.data.toList = nJ := rfl
theorem sT_list : sT.data.toList = nT := rfl
theorem ok_sJ : okN sJ = true := by decide
theorem ok_sT : okN sT = true := by decide

/-- A disk that keeps this text under the journal's name, or none, and nothing else. -/
structure JS (d : DS) (q : Int) (c : Option Nm) : Prop where
  dead : d.dead = false
  left : d.left < 0
  quota : d.quota = q
  now : match c with | none => d.now = [] | some F => ∃ b, d.now = [(nJ, b)] ∧ (d.fs b).1 = F
def lenC : Option Nm → Nat
  | none => 0
  | some F => F.length
theorem JS.sm {d : DS} {q : Int} {c : Option Nm} (h : JS d q c) : Smd d q (lenC c) 1 := by
  refine ⟨h.dead, h.left, h.quota, ?_, ?_, ?_⟩
  · cases c with
    | none => have := h.now; simp only [] at this; simp [usedD, this, lenC]
    | some F => obtain ⟨b, h1, h2⟩ := h.now; simp [usedD, h1, lenNow, h2, lenC]
  · cases c with
    | none => have := h.now; simp only [] at this; simp [this]
    | some F => obtain ⟨b, h1, h2⟩ := h.now; simp [h1]
  · cases c with
    | none => have := h.now; simp only [] at this; rw [this]; exact List.Pairwise.nil
    | some F => obtain ⟨b, h1, h2⟩ := h.now; rw [h1]; exact List.pairwise_singleton _ _
theorem JS.noT {d : DS} {q : Int} {c : Option Nm} (h : JS d q c) : getD d.now nT = none := by
  cases c with
  | none => have := h.now; simp only [] at this; rw [this]; rfl
  | some F => obtain ⟨b, h1, h2⟩ := h.now; rw [h1]; rfl
theorem live_find {d : DS} {n : Nm} (hd : d.dead = false) : findV d n = getD d.now n ∧ findE d n = (match getD d.now n with | none => 5 | some _ => 0) := by
  unfold findV findE
  rw [hd]
  exact ⟨rfl, rfl⟩
theorem JS.remT {d : DS} {q : Int} {c : Option Nm} (h : JS d q c) : remE d sT = 5 ∧ remD d sT = d := by
  obtain ⟨h1, h2⟩ := live_find (d := d) (n := nT) h.dead
  rw [h.noT] at h1 h2
  exact ⟨by unfold remE; rw [sT_list, h2]; rfl, by unfold remD; rw [sT_list, h1]⟩
/-- Behind the append of a frame to the file that comes: its name, beside the journal's. -/
structure JT (d : DS) (q : Int) (b : Nat) (F : Nm) (s : Nm) : Prop where
  dead : d.dead = false
  left : d.left < 0
  quota : d.quota = q
  now : d.now = [(nT, b)] ∨ ∃ b0, d.now = [(nJ, b0), (nT, b)]
  fs : d.fs b = (F, s)
theorem JS.app {d : DS} {q : Int} {c : Option Nm} (h : JS d q c) {t : ByteArray} {b : Nat} (hb : ¬ d.Has b) (ht : t.size ≤ 1048576) :
    ((t.size : Int) ≤ q - lenC c → appE d sT t = 0 ∧ JT (appD d sT t b) q b t.data.toList []) ∧ (¬ (t.size : Int) ≤ q - lenC c → appE d sT t = 7 ∧ appD d sT t b = d) := by
  obtain ⟨h1, h2⟩ := h.sm.app (s := sT) ok_sT h.noT hb ht (by omega)
  refine ⟨fun hf => ?_, h2⟩
  obtain ⟨e, S, _, _, hD⟩ := h1 hf
  refine ⟨e, ?_⟩
  rw [hD]
  refine ⟨h.dead, h.left, h.quota, ?_, by simp [newF, upd_same]⟩
  cases c with
  | none => have := h.now; simp only [] at this; left; show putD d.now nT b = _; rw [this]; rfl
  | some F =>
    obtain ⟨b0, k1, k2⟩ := h.now
    right
    refine ⟨b0, ?_⟩
    show putD d.now nT b = _
    rw [k1]
    simp [putD, delD, ins, nJT', nJneT]
theorem JT.find {d : DS} {q : Int} {b : Nat} {F s : Nm} (h : JT d q b F s) : getD d.now nT = some b := by
  rcases h.now with e | ⟨b0, e⟩
  · rw [e]; rfl
  · rw [e]; rfl
theorem JT.syn {d : DS} {q : Int} {b : Nat} {F s : Nm} (h : JT d q b F s) : synE d sT = 0 ∧ JT (synD d sT) q b F F := by
  obtain ⟨h1, h2⟩ := live_find (d := d) (n := nT) h.dead
  rw [h.find] at h1 h2
  have hl : ¬ d.left = 0 := by have := h.left; omega
  refine ⟨by unfold synE; rw [sT_list, h2]; simp [hl], ?_⟩
  have e : synD d sT = synF d b := by unfold synD; rw [sT_list, h1]; simp [hl, dec_neg h.left]
  rw [e]
  exact ⟨h.dead, h.left, h.quota, h.now, by simp [synF, upd_same, h.fs]⟩
theorem JT.ren {d : DS} {q : Int} {b : Nat} {F s : Nm} (h : JT d q b F s) : renE d sT sJ = 0 ∧ JS (renD d sT sJ) q (some F) := by
  obtain ⟨h1, h2⟩ := live_find (d := d) (n := nT) h.dead
  rw [h.find] at h1 h2
  have hl : ¬ d.left = 0 := by have := h.left; omega
  refine ⟨by unfold renE; rw [sT_list, h2, ok_sJ]; simp [hl], ?_⟩
  have e : renD d sT sJ = renF d nT nJ b := by unfold renD; rw [sT_list, h1, ok_sJ]; simp [hl, dec_neg h.left]; rfl
  rw [e]
  refine ⟨h.dead, h.left, h.quota, b, ?_, by simp [renF, h.fs]⟩
  rcases h.now with e | ⟨b0, e⟩
  · simp [renF, e, delD, putD, ins]
  · simp [renF, e, delD, putD, ins, nJneT]
theorem JS.sdir {d : DS} {q : Int} {c : Option Nm} (h : JS d q c) : sdE d = 0 ∧ JS (sdD d) q c := by
  have hl : ¬ d.left = 0 := by have := h.left; omega
  refine ⟨by unfold sdE; rw [h.dead]; simp [hl], ?_⟩
  have e : sdD d = sdirF d := by unfold sdD; rw [h.dead]; simp [hl, dec_neg h.left]
  rw [e]
  exact ⟨h.dead, h.left, h.quota, h.now⟩
theorem JS.quo {d : DS} {q : Int} {c : Option Nm} (h : JS d q c) (r : Int) (hr : 0 ≤ r) : JS (qDS d r) r c := ⟨h.dead, h.left, by show max r 0 = r; omega, h.now⟩
theorem js_new (q : Int) (hq : 0 ≤ q) : JS (newDS q) q none := ⟨rfl, by show (-1 : Int) < 0; omega, by show max q 0 = q; omega, rfl⟩
def errC : Option Nm → Int
  | none => 5
  | some _ => 0
theorem lenC_some (F : Nm) : lenC (some F) = F.length := rfl
theorem errC_some (F : Nm) : errC (some F) = 0 := rfl
theorem lenC_none : lenC none = 0 := rfl
theorem errC_none : errC none = 5 := rfl
theorem JS.size {d : DS} {q : Int} {c : Option Nm} (h : JS d q c) : sizeR d nJ = lenC c ∧ findE d nJ = errC c := by
  obtain ⟨h1, h2⟩ := live_find (d := d) (n := nJ) h.dead
  unfold sizeR
  rw [h1, h2]
  cases c with
  | none => have := h.now; simp only [] at this; rw [this]; exact ⟨rfl, rfl⟩
  | some F => obtain ⟨b, k1, k2⟩ := h.now; rw [k1]; simp [getD, lenC, k2, errC]
theorem JS.read {d : DS} {q : Int} {F : Nm} (h : JS d q (some F)) : readS d sJ 0 F.length = ⟨F.toArray⟩ ∧ readE d sJ 0 F.length = 0 := by
  obtain ⟨h1, h2⟩ := live_find (d := d) (n := nJ) h.dead
  obtain ⟨b, k1, k2⟩ := h.now
  have hg : getD d.now nJ = some b := by rw [k1]; rfl
  rw [hg] at h1 h2
  constructor
  · unfold readS
    rw [sJ_list, h1]
    simp only []
    rw [if_neg (by omega), k2]
    simp
  · unfold readE
    rw [sJ_list, h2]
    simp
end Go.Proofs.YtmlpkimbcjkbkaaGreatDoor
