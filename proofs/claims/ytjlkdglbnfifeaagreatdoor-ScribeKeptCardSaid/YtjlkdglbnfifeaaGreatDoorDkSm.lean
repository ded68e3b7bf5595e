/-
  A DISK THAT IS ONLY APPENDED TO, by new names: what Append answers, what is used then.
-/
import Derived.Test.YtjlkdglbnfifeaaGreatDoorDkL
namespace Go.Proofs.YtjlkdglbnfifeaaGreatDoor
open Go.RowKit Go.Maps

theorem bounds_i64 {n : Int} (h : (Lit.int .i64 n).wf = true) : -9223372036854775808 ≤ n ∧ n ≤ 9223372036854775807 := by
  simpa [Lit.wf, IntKind.min, IntKind.max, IntKind.bits, IntKind.signed] using h
structure Sm (d : DS) (q : Int) (U k : Nat) : Prop where
  dead : d.dead = false
  left : d.left < 0
  quota : d.quota = q
  used : usedD d = U
  few : d.now.length ≤ k
  srt : Srt d.now
theorem sum_ins (g : Nm × Nat → Nat) (n : Nm) (b : Nat) : ∀ l : Dir, ((ins n b l).map g).sum = g (n, b) + (l.map g).sum
  | [] => rfl
  | x :: r => by
    unfold ins
    split
    · rfl
    · simp only [List.map_cons, List.sum_cons, sum_ins g n b r]; omega
theorem del_none {l : Dir} {n : Nm} (h : getD l n = none) : delD l n = l := by
  unfold delD
  exact List.filter_eq_self.2 (fun p hp => by simpa using getD_none h p hp)
theorem used_new {d : DS} {n t : Nm} {b : Nat} (hn : getD d.now n = none) (hb : ¬ d.Has b) : usedD (newF d n b t) = usedD d + t.length := by
  unfold usedD newF
  simp only []
  rw [putD, del_none hn, sum_ins]
  have e1 : lenNow { d with now := ins n b d.now, fs := upd d.fs b (t, []) } (n, b) = t.length := by simp [lenNow, upd_same]
  have e2 : d.now.map (lenNow { d with now := ins n b d.now, fs := upd d.fs b (t, []) }) = d.now.map (lenNow d) := by
    apply List.map_congr_left
    intro p hp
    have : p.2 ≠ b := fun e => hb ⟨p.1, .inl (by rw [← e]; exact hp)⟩
    simp [lenNow, upd_other _ _ this]
  rw [e1, e2]
  omega
theorem dec_neg {d : DS} (h : d.left < 0) : decD d = d := by unfold decD; rw [if_neg (by omega)]
theorem Sm.app {d : DS} {q : Int} {U k : Nat} (h : Sm d q U k) {s t : ByteArray} {b : Nat} (hs : okN s = true) (hn : getD d.now s.data.toList = none) (hb : ¬ d.Has b) (ht : t.size ≤ 1048576) (hk : k < 100) :
    ((t.size : Int) ≤ q - U → appE d s t = 0 ∧ Sm (appD d s t b) q (U + t.size) (k + 1) ∧ getD (appD d s t b).now s.data.toList = some b ∧ (∀ x, x ≠ s.data.toList → getD (appD d s t b).now x = getD d.now x) ∧ appD d s t b = newF d s.data.toList b t.data.toList) ∧
    (¬ (t.size : Int) ≤ q - U → appE d s t = 7 ∧ appD d s t b = d) := by
  have hl : ¬ d.left = 0 := by have := h.left; omega
  have hr : roomE d s.data.toList t.size = if q - (U : Int) < t.size then 7 else 0 := by
    have := h.few
    rw [roomE_low _ _ _ (by rw [hn]; simp; omega), h.quota, h.used]
    have hh : hasL d s.data.toList = 0 := by unfold hasL; rw [hn]
    rw [hh]
    split
    · rfl
    · rw [if_neg (by simp; omega)]
  constructor
  · intro hfit
    rw [if_neg (by omega)] at hr
    have hD : appD d s t b = newF d s.data.toList b t.data.toList := by
      unfold appD
      rw [h.dead, hs, hr]
      simp only [Bool.false_eq_true, if_false, ne_eq, not_true, if_neg hl, dec_neg h.left]
      unfold wrD
      rw [hn]
      simp
    refine ⟨by unfold appE; rw [h.dead, hs, hr]; simp [hl], ?_, ?_, ?_, hD⟩
    · rw [hD]
      exact ⟨h.dead, h.left, h.quota, by rw [used_new hn hb, h.used]; simp, by have := length_putD d.now s.data.toList b; have := h.few; show (putD d.now s.data.toList b).length ≤ k + 1; omega, h.srt.put _ _⟩
    · rw [hD]; exact getD_put_same _ h.srt _ _
    · intro x hx
      rw [hD]; exact getD_put_other _ h.srt _ hx
  · intro hfit
    rw [if_pos (by omega)] at hr
    exact ⟨by unfold appE; rw [h.dead, hs, hr]; simp, by unfold appD; rw [h.dead, hs, hr]; simp⟩
def Case (q : Int) (U t : Nat) (E : Int) (V : Nat) : Prop := ((t : Int) ≤ q - U ∧ E = 0 ∧ V = U + t) ∨ (¬ (t : Int) ≤ q - U ∧ E = 7 ∧ V = U)
theorem Dsk.fresh {Fp : Nat → Prop} {w : World} {Bd : Nat} {d : DS} {m : Nat} (h : Dsk Fp w Bd d m) : ¬ d.Has w.heap.size := by
  obtain ⟨_, _, _, _, hD⟩ := h
  exact hD.fresh
theorem Sm.next {d : DS} {q : Int} {U k : Nat} (h : Sm d q U k) {s t : ByteArray} {b : Nat} (hs : okN s = true) (hn : getD d.now s.data.toList = none) (hb : ¬ d.Has b) (ht : t.size ≤ 1048576) (hk : k < 100) {E : Int} {V : Nat} (hc : Case q U t.size E V) :
    appE d s t = E ∧ Sm (appD d s t b) q V (k + 1) ∧ ∀ x, x ≠ s.data.toList → getD d.now x = none → getD (appD d s t b).now x = none := by
  obtain ⟨h1, h2⟩ := h.app hs hn hb ht hk
  rcases hc with ⟨hf, rfl, rfl⟩ | ⟨hf, rfl, rfl⟩
  · obtain ⟨e, S, _, g, _⟩ := h1 hf
    exact ⟨e, S, fun x hx hn => by rw [g x hx]; exact hn⟩
  · obtain ⟨e, hd⟩ := h2 hf
    rw [hd]
    exact ⟨e, ⟨h.dead, h.left, h.quota, h.used, Nat.le_succ_of_le h.few, h.srt⟩, fun x _ hn => hn⟩
theorem Sm.quo {d : DS} {q : Int} {U k : Nat} (h : Sm d q U k) (r : Int) (hr : 0 ≤ r) : Sm (qDS d r) r U k := ⟨h.dead, h.left, by show max r 0 = r; omega, h.used, h.few, h.srt⟩
theorem sm_new (q : Int) (hq : 0 ≤ q) : Sm (newDS q) q 0 0 := ⟨rfl, by show (-1 : Int) < 0; omega, by show max q 0 = q; omega, rfl, Nat.le_refl _, List.Pairwise.nil⟩
end Go.Proofs.YtjlkdglbnfifeaaGreatDoor
