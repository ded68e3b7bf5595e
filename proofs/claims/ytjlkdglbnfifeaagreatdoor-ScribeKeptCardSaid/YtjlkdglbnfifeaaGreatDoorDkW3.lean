/-
  CONTRACT of Used: the bytes of all files, whichever order the map is gone through in.
-/
import Derived.Test.YtjlkdglbnfifeaaGreatDoorDkW2
import Derived.Maps.RangeWalk
namespace Go.Proofs.YtjlkdglbnfifeaaGreatDoor
open Go.RowKit Go.Maps

def leftS (l : Dir) (g : Nm × Nat → Nat) (left : Lit → Bool) : Nat := ((l.filter (fun p => !left (.string p.1))).map g).sum
theorem leftS_all (l : Dir) (g : Nm × Nat → Nat) (left : Lit → Bool) (h : ∀ kl, left kl = false) : leftS l g left = (l.map g).sum := by
  unfold leftS
  rw [List.filter_eq_self.2 (fun p _ => by simp [h])]
theorem leftS_none (l : Dir) (g : Nm × Nat → Nat) (left : Lit → Bool) (h : ∀ p ∈ l, left (.string p.1) = true) : leftS l g left = 0 := by
  unfold leftS
  rw [List.filter_eq_nil_iff.2 (fun p hp => by simp [h p hp])]
  rfl
theorem leftS_le (l : Dir) (g : Nm × Nat → Nat) (left : Lit → Bool) : leftS l g left ≤ (l.map g).sum := by
  unfold leftS
  induction l with
  | nil => simp
  | cons x r ih =>
    rw [List.filter_cons]
    split
    · simp only [List.map_cons, List.sum_cons]; omega
    · simp only [List.map_cons, List.sum_cons]; omega
theorem leftS_step {l : Dir} (hs : Srt l) (g : Nm × Nat → Nat) (left : Lit → Bool) {n : Nm} {b : Nat} (hm : (n, b) ∈ l) (hl : left (.string n) = true) :
    leftS l g (fun z => left z && !z.sameKey (.string n)) = leftS l g left + g (n, b) := by
  have other : ∀ {r : Dir}, (∀ p ∈ r, p.1 ≠ n) → leftS r g (fun z => left z && !z.sameKey (.string n)) = leftS r g left := by
    intro r hr
    unfold leftS
    congr 2
    apply List.filter_congr
    intro p hp
    have e : (Lit.string p.1).sameKey (.string n) = false := by simp [Lit.sameKey, hr p hp]
    simp [e]
  induction l with
  | nil => cases hm
  | cons x r ih =>
    have h' := List.pairwise_cons.1 hs
    by_cases hx : x.1 = n
    · have hxb : x = (n, b) := by
        rcases List.mem_cons.1 hm with e | hm
        · exact e.symm
        · exact absurd (h'.1 _ hm) (by rw [hx]; exact nm_irrefl n)
      subst hxb
      have ho := other (r := r) (fun p hp e => nm_irrefl n (by have := h'.1 p hp; rw [e] at this; exact this))
      unfold leftS at ho ⊢
      rw [List.filter_cons_of_pos (by simp [Lit.sameKey]), List.filter_cons_of_neg (by simp [hl])]
      simp only [List.map_cons, List.sum_cons, ho]
      omega
    · have hm' : (n, b) ∈ r := by
        rcases List.mem_cons.1 hm with e | hm
        · rw [← e] at hx; exact absurd rfl hx
        · exact hm
      have hi := ih h'.2 hm'
      have e : (Lit.string x.1).sameKey (.string n) = false := by simp [Lit.sameKey, hx]
      unfold leftS at hi ⊢
      rw [List.filter_cons, List.filter_cons]
      simp only [e, Bool.not_false, Bool.and_true]
      split
      · simp only [List.map_cons, List.sum_cons, hi]; omega
      · exact hi
def lenNow (d : DS) (p : Nm × Nat) : Nat := (d.fs p.2).1.length
def usedD (d : DS) : Nat := (d.now.map (lenNow d)).sum
theorem sum_le_mul (l : Dir) (g : Nm × Nat → Nat) (k : Nat) (h : ∀ p ∈ l, g p ≤ k) : (l.map g).sum ≤ k * l.length := by
  induction l with
  | nil => simp
  | cons x r ih =>
    have := ih (fun p hp => h p (by simp [hp]))
    have := h x (by simp)
    simp only [List.map_cons, List.sum_cons, List.length_cons, Nat.mul_add, Nat.mul_one]
    omega
variable {Fp : Nat → Prop} {w : World} {Bd mn ms : Nat} {vs : Nat → Value × Value} {d : DS} {m : Nat}
theorem DV.used_le (h : DV Fp w Bd mn ms vs d m) : usedD d ≤ 104857600000 := by
  have h1 := sum_le_mul d.now (lenNow d) 1048576 (fun p hp => (h.lens p.2 ⟨p.1, .inl hp⟩).1)
  have h2 := h.lenN
  have h3 := h.few
  have h4 : 1048576 * d.now.length ≤ 1048576 * 100000 := Nat.mul_le_mul_left _ (by omega)
  unfold usedD
  omega
theorem string_key {k : TypeId} {P : Program} (hk : P.underlying k = some .string) {key : Value} {kl : Lit} (h : keyOf P k key = some kl) : ∃ x : ByteArray, key = .string x ∧ kl = .string x.data.toList := by
  rw [keyOf_string hk] at h
  unfold mapKey at h
  rw [hk] at h
  cases key <;> simp at h
  rename_i s
  exact ⟨s, rfl, h.2.symm⟩
set_option maxHeartbeats 2000000 in
theorem used_any (h : DV Fp w Bd mn ms vs d m) : Calls Tryz.prog 73 #[.pointer (some ⟨Bd, 0, none⟩)] w fun e w' => e = .returned (.int .i64 (usedD d)) ∧ Below w.heap.size w w' := by
  have c0 := h.c0
  have HU := h.used_le
  have H := Lib.hid h
  have HM := h.mapN
  clear h
  go_enter Tryz.func73, Tryz.ntmps73
  go_wp2_with (first | (at_range; refine wpList_range_own _ rfl _ 48 rfl 9 59 (string_keyed Tryz.underlying9) Tryz.underlying48 ptrE mn m (dat d.now) rfl HM ?_; intro w0 hrg0 hg0 hs0) | go_in)
  go_frame
  have HB0 : Below w.heap.size w w0 := ⟨hg0.os, hg0.tape, hg0.output, hg0.size, fun k hk => hg0.block k hk (by simp)⟩
  have HS := Lib.hid (show ∃ left cnt, w0.ranges Tryz.prog 9 ptrE mn w.heap.size m (dat d.now) left cnt ∧ (0 : Int) = (leftS d.now (lenNow d) left : Nat) ∧ Below w.heap.size w w0 from ⟨_, _, hrg0, by
    rw [leftS_none _ _ _ (fun p hp => by rw [dat_has, getD_of_mem H.out.srtN (b := p.2) hp]; rfl)]; rfl, HB0⟩)
  clear hrg0 hg0 hs0 HB0
  go_loopw [3] (fun n wr => ∃ s : Int, n = .int .i64 s ∧ Hid (∃ left cnt, wr.ranges Tryz.prog 9 ptrE mn w.heap.size m (dat d.now) left cnt ∧ s = (leftS d.now (lenNow d) left : Nat) ∧ Below w.heap.size w wr)) (fun _ wr => wr.rangeLeft mn w.heap.size)
  case atStart => exact ⟨0, rfl, HS⟩
  case round =>
    obtain ⟨s, rfl, HK⟩ := hrel
    obtain ⟨left0, cnt, hrg, hsum, hB⟩ := HK.out
    clear HK HS
    have hle := leftS_le d.now (lenNow d) left0
    go_wp2_with (first
      | (at_next; refine wpList_next_ranges _ rfl _ rfl 9 (string_keyed Tryz.underlying9) ptrE Value.string ptrV (fun key kl hk => by obtain ⟨x, hx, _⟩ := string_key Tryz.underlying9 hk; exact ⟨x, hx⟩) (fun v y hy => by
          rcases ptrE_inv hy with ⟨rfl, _⟩ | ⟨b, rfl, _⟩
          · exact ⟨none, rfl⟩
          · exact ⟨some b, rfl⟩) mn w.heap.size m _ _ _ rfl hrg ?_ ?_)
      | go_in)
    · intro hc0 hl0
      have HF := Lib.hid (show leftS d.now (lenNow d) left0 = usedD d from by rw [leftS_all _ _ _ hl0]; rfl)
      clear hle hrg
      go_wp2
      go_ret
      exact ⟨by rw [← HF.out]; rfl, hB⟩
    · intro x c kl y yp w1 cnt1 hk hlk hR hat hrg1 hlt hg1 hs1 hen
      obtain ⟨x', ex, rfl⟩ := string_key Tryz.underlying9 hk
      obtain rfl : x = x' := by simpa using ex
      have hget : ∃ b, getD d.now x.data.toList = some b ∧ c = some b := by
        have h1 := hat .nil
        have h2 := hat (.agg [])
        rw [dat_get] at h1
        cases hg : getD d.now x.data.toList with
        | none =>
          have hno : Maps.has (dat d.now) (.string x.data.toList) = false := by rw [dat_has, hg]; rfl
          have e1 := Maps.atKey_of_not_has hno (.nil : DataW Unit)
          have e2 := Maps.atKey_of_not_has hno (.agg [] : DataW Unit)
          rw [hat] at e1 e2
          rw [e1] at e2
          cases e2
        | some b =>
          rw [hg] at h1
          refine ⟨b, rfl, ?_⟩
          cases c with
          | none => rw [show ptrV none = .pointer none from rfl, ptrE_none] at hR; simp at hR; rw [← hR.1] at h1; cases h1
          | some b' =>
            rw [show ptrV (some b') = .pointer (some ⟨b', 0, none⟩) from rfl, ptrE_some] at hR
            simp at hR
            rw [← hR.1] at h1
            simp at h1
            rw [show b' = b by omega]
      obtain ⟨b, hgb, rfl⟩ := hget
      have hmem := getD_mem hgb
      have hF := H.out.files b ⟨_, .inl hmem⟩
      have hB1 : Below w.heap.size w w1 := hB.grown hg1 hB.size (fun k e => by cases e; exact Nat.le_refl _)
      have f0 := hF.c0
      have hlt0 := hF.lt
      obtain ⟨p, cap, hp, _, _⟩ := hF.s1.form
      rw [hp] at f0
      have f1 : w1.cell? ⟨b, 0, none⟩ = some (.slice p (d.fs b).1.length cap) := (hB1.cell (p := ⟨b, 0, none⟩) hlt0).trans f0
      have hstep := leftS_step H.out.srtN (lenNow d) left0 hmem hlk
      have hle1 := leftS_le d.now (lenNow d) (fun z => left0 z && !z.sameKey (.string x.data.toList))
      rw [hstep] at hle1
      have hlen : (d.fs b).1.length = lenNow d (x.data.toList, b) := rfl
      have hbig : leftS d.now (lenNow d) left0 + lenNow d (x.data.toList, b) ≤ 104857600000 := Nat.le_trans hle1 HU
      have HN : Hid (∃ left cnt, w1.ranges Tryz.prog 9 ptrE mn w.heap.size m (dat d.now) left cnt ∧ ((leftS d.now (lenNow d) left0 : Int) + ((d.fs b).1.length : Int)) = (leftS d.now (lenNow d) left : Nat) ∧ Below w.heap.size w w1) := Lib.hid ⟨_, _, hrg1, by rw [hstep, ← hlen]; omega, hB1⟩
      have hm1 : w1.rangeLeft mn w.heap.size < wr.rangeLeft mn w.heap.size := by rw [hrg1.left_eq, hrg.left_eq]; exact hlt
      rw [← hlen] at hbig
      simp only [ptrV] at hen
      clear hrg1 hrg hat hR hk hstep hle1 hle hlen hF hp hgb hg1 hs1 HM hmem hlk hB1 hB c0 HU
      subst hsum
      generalize leftS d.now (lenNow d) left0 = s0 at *
      generalize (d.fs b).1.length = s1 at *
      have HN2 := HN
      clear HN
      generalize hH : Hid _ = HP at HN2
      go_wp2
      go_roundw
      case rel => exact ⟨_, rfl, by rw [hH]; exact HN2⟩
      case measure => exact hm1
end Go.Proofs.YtjlkdglbnfifeaaGreatDoor
