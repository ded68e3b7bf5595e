/-
  CONTRACTS of layer 10's sets and tables: newTable, row, add, join, keep, meet, none; math/bits.TrailingZeros64.
-/
import Derived.Test.YtmlpkimbcjkbkaaGreatDoorMtW0
import Derived.Lib.TrailingZeros
import Derived.Laws.MakeOwn
import Derived.OwnWalk
namespace Go.Proofs.YtmlpkimbcjkbkaaGreatDoor
open Go.RowKit

/-- A table, as a value. -/
def tbV (g R m : Nat) : Value := .agg #[.int .i64 (m : Int), .slice (some ⟨g, 0, none⟩) (R * m) (R * m)]
theorem Tryz.infoU64 : (Tryz.prog.info? 40).map (fun i => (i.zero, i.size, i.bytes)) = some (some (.int .u64 0), 1, 8) := by kernel_rfl
theorem made_tab (R m : Nat) : madeCells (Value.int .u64 0).cells (R * m * 1) = tabA R m (fun _ _ => False) := by
  rw [Nat.mul_one]
  apply Array.ext
  · rw [size_madeCells, tabA_size]
  · intro k h1 h2
    simp only [tabA, Array.getElem_ofFn, wd_none]
    show (madeCells #[.int .u64 0] (R * m))[k] = _
    simp [madeCells, Nat.mod_one]
theorem mt_heap_new (w : World) (o : Obj) : (w.alloc o).heap[w.heap.size]? = some o := by
  show (w.heap.push _)[w.heap.size]? = _
  exact Array.getElem?_push_size
set_option maxHeartbeats 4000000 in
theorem mtab_any (R m : Nat) (hb : R * m ≤ 1000000000) (w : World) :
    Calls Tryz.prog 38 #[.int .i64 (R : Int), .int .i64 (m : Int)] w fun e w' => ∃ g, e = .returned (tbV g R m) ∧ w.heap.size ≤ g ∧ Tb w' g R m (fun _ _ => False) ∧ Below w.heap.size w w' := by
  obtain ⟨i0, hi, hz0, hz1, hz2⟩ := info_parts Tryz.infoU64
  obtain ⟨n, hn⟩ : ∃ n, R * m = n := ⟨_, rfl⟩
  have hni : (R : Int) * (m : Int) = (n : Int) := by rw [← hn, Int.natCast_mul]
  have hr := run_make (P := Tryz.prog) (w.alloc (.cells #[.int .i64 0, .slice none 0 0] 52)) 50 40 i0 (.int .u64 0) Tryz.underlying50 hi hz0 .i64 .i64 (n : Int) (n : Int) (by omega) (by omega) (by rw [hz2]; omega) (by omega)
  have hmt := made_tab R m
  rw [hz1, Int.toNat_natCast, ← hn, hmt] at hr
  rw [World.size_alloc] at hr
  have HT := Lib.hid (show ∀ o, Tb ((w.alloc o).alloc (.cells (tabA R m (fun _ _ => False)) 40)) (w.heap.size + 1) R m (fun _ _ => False) from fun o => by
    have := mt_heap_new (w.alloc o) (.cells (tabA R m (fun _ _ => False)) 40)
    rwa [World.size_alloc] at this)
  generalize tabA R m (fun _ _ => False) = TA at *
  rw [hn] at hr
  have hnn : (R : Int) * (m : Int) ≤ 1000000000 := by omega
  have hn0 : 0 ≤ (n : Int) := by omega
  have hn9 : (n : Int) ≤ 1000000000 := by omega
  have HN := Lib.hid hn
  clear hn hmt hnn hb
  go_enter Tryz.func38, Tryz.ntmps38
  go_wp2_with fail
  refine bodyPost_ret (v := tbV (w.heap.size + 1) R m) ?_ rfl ⟨w.heap.size + 1, rfl, by omega, ?_, ?_⟩
  · simp [results, Tryz.results38, go_sem, tbV, HN.out]
  · exact HT.out _
  · exact ((Below.refl _ _).alloc (Nat.le_refl _) _).alloc (by simp) _
/-- A row of a table, as a value. -/
def rwO (R m i : Nat) : Nat := if R * m - i * m = 0 then 0 else i * m
theorem rwO_eq {R m i : Nat} (hi : i < R) (hm : 0 < m) : rwO R m i = i * m := by
  have h1 : (i + 1) * m ≤ R * m := Nat.mul_le_mul_right m hi
  rw [Nat.succ_mul] at h1
  unfold rwO
  rw [if_neg (by omega)]
def rwV (g R m i : Nat) : Value := .slice (some ⟨g, rwO R m i, none⟩) m (R * m - i * m)
/-- Of what lay in memory block b alone has turned, and nothing is new. -/
structure Sm (b : Nat) (w w' : World) : Prop where
  onl : Onl b w w'
  eq : w'.heap.size = w.heap.size
theorem Sm.refl (b : Nat) (w : World) : Sm b w w := ⟨Onl.refl b w, rfl⟩
theorem Sm.drew {b : Nat} {u w : World} (h : Sm b u w) : Sm b u w.drew := ⟨h.onl.drew, h.eq⟩
theorem Tb.drew {w : World} {g R m : Nat} {P : Nat → Nat → Prop} (h : Tb w g R m P) : Tb w.drew g R m P := h
/-- A bool is answered, which says whether p. -/
def BoolPost (p : Prop) (w : World) (e : Ending) (w' : World) : Prop := ∃ b : Bool, e = .returned (.bool b) ∧ (b = true ↔ p) ∧ w' = w
theorem Sm.setCell {b : Nat} {u w : World} (h : Sm b u w) (o : Nat) (v : Value) : Sm b u (w.setCell ⟨b, o, none⟩ v) := ⟨h.onl.setCell o v, by rw [World.size_setCell]; exact h.eq⟩
set_option maxHeartbeats 4000000 in
theorem mrow_any (g R m i : Nat) (hi : i < R) (hb : R * m ≤ 1000000000) (hR : R ≤ 1000000000) (w : World) :
    Calls Tryz.prog 41 #[tbV g R m, .int .i64 (i : Int)] w fun e w' => e = .returned (rwV g R m i) ∧ w' = w.alloc (.cells #[.int .i64 (m : Int), .slice (some ⟨g, 0, none⟩) (R * m) (R * m)] 52) := by
  have h1 : (i + 1) * m ≤ R * m := Nat.mul_le_mul_right m hi
  have h2 : (i + 1) * m = i * m + m := Nat.succ_mul i m
  unfold tbV rwV rwO
  have hn1 : (i : Int) * (m : Int) = ((i * m : Nat) : Int) := by rw [Int.natCast_mul]
  have hn2 : ((i : Int) + 1) * (m : Int) = ((i * m + m : Nat) : Int) := by rw [← h2, Int.natCast_mul]; rfl
  obtain ⟨o, ho⟩ : ∃ o, i * m = o := ⟨_, rfl⟩
  obtain ⟨n, hn⟩ : ∃ n, R * m = n := ⟨_, rfl⟩
  rw [h2] at h1
  rw [ho] at hn1 hn2 h1 ⊢
  rw [hn] at h1 hb ⊢
  have e1 : o + m ≤ n := by omega
  clear ho hn h1 h2
  have hi0 : (i : Int) ≤ 1000000000 := by omega
  have e3 : (o : Int) + (m : Int) ≤ (n : Int) := by omega
  have e4 : (n : Int) ≤ 1000000000 := by omega
  have e6 : (m : Int) ≤ 1000000000 := by omega
  have e5 : ((o + m : Nat) : Int) = (o : Int) + (m : Int) := by omega
  rw [e5] at hn2
  by_cases hno : n - o = 0
  · rw [if_pos hno]
    obtain rfl : o = n := by omega
    obtain rfl : m = 0 := by omega
    obtain rfl : o = 0 := by have : (o : Int) = 0 := by rw [← hn1]; simp
                             omega
    clear hn2 hn1 e5 hno e1 e3
    go_enter Tryz.func41, Tryz.ntmps41
    go_wp2
    go_ret
    simp [go_sem]
  · rw [if_neg hno]
    have hno2 : o < n := by omega
    go_enter Tryz.func41, Tryz.ntmps41
    go_wp2
    go_ret
    simp [go_sem]
set_option maxHeartbeats 4000000 in
theorem mjoin_any {w : World} {g g2 R R2 m i i2 : Nat} {P Q : Nat → Nat → Prop} (h : Tb w g R m P) (h2 : Tb w g2 R2 m Q) (hne : g ≠ g2) (hi : i < R) (hi2 : i2 < R2) (hm : m ≤ 1000000000) {o o2 : Nat} (ho : 0 < m → o = i * m) (ho2 : 0 < m → o2 = i2 * m) (c c2 : Nat) :
    Calls Tryz.prog 40 #[.slice (some ⟨g, o, none⟩) m c, .slice (some ⟨g2, o2, none⟩) m c2] w fun e w' => e = .returned (.tuple #[]) ∧ Tb w' g R m (fun r x => P r x ∨ (r = i ∧ Q i2 x)) ∧ Sm g w w' := by
  have HI : Hid (∀ k wr, k ≤ m → Hid (Tb wr g R m (fun r x => P r x ∨ (r = i ∧ x < 64 * k ∧ Q i2 x)) ∧ Sm g w wr) → k < m → ∃ a b d : Nat, wr.cell? ⟨g, o + k, none⟩ = some (.int .u64 (a : Int)) ∧ wr.cell? ⟨g2, o2 + k, none⟩ = some (.int .u64 (b : Int)) ∧ wr.frozen? ⟨g, o + k, none⟩ = false ∧
      bits BinOp.or IntKind.u64 (a : Int) (b : Int) = (d : Int) ∧ Hid (Tb (wr.setCell ⟨g, o + k, none⟩ (.int .u64 (d : Int))) g R m (fun r x => P r x ∨ (r = i ∧ x < 64 * (k + 1) ∧ Q i2 x)) ∧ Sm g w (wr.setCell ⟨g, o + k, none⟩ (.int .u64 (d : Int))))) := Lib.hid fun k wr hk H hkm => by
    obtain ⟨t1, t2⟩ := H.out
    obtain rfl := ho (by omega)
    obtain rfl := ho2 (by omega)
    have q2 := h2.onl t2.onl (Ne.symm hne)
    have e1 : wd (fun x => P i x ∨ (i = i ∧ x < 64 * k ∧ Q i2 x)) k = wd (P i) k := wd_congr fun b hb => by
      have : ¬ (64 * k + b < 64 * k) := by omega
      simp [this]
    refine ⟨wd (P i) k, wd (Q i2) k, _, ?_, q2.cell hi2 hkm, t1.frozen, bits_or_u64_nat _ _ (wd_lt _ _) (wd_lt _ _), Lib.hid ?_⟩
    · have := t1.cell hi hkm
      rw [this, e1]
    · rw [wd_or]
      refine ⟨(t1.set hi hkm _).congr fun r x hr hx => ?_, t2.setCell _ _⟩
      by_cases hr : r = i
      · subst hr
        by_cases hx : x / 64 = k
        · have e2 : ¬ x < 64 * k := by omega
          have e3 : x < 64 * (k + 1) := by omega
          simp [hx, e2, e3]
        · have e2 : x < 64 * k ↔ x < 64 * (k + 1) := by omega
          simp [hx, e2]
      · simp [hr]
  have H0 : Hid (Tb w g R m (fun r x => P r x ∨ (r = i ∧ x < 64 * 0 ∧ Q i2 x)) ∧ Sm g w w) := Lib.hid ⟨h.congr fun r x _ _ => by simp, Sm.refl _ _⟩
  have HE : Hid (∀ wr, Hid (Tb wr g R m (fun r x => P r x ∨ (r = i ∧ x < 64 * m ∧ Q i2 x)) ∧ Sm g w wr) → Tb wr g R m (fun r x => P r x ∨ (r = i ∧ Q i2 x)) ∧ Sm g w wr) := Lib.hid fun wr H => ⟨H.out.1.congr fun r x _ hx => by simp [hx], H.out.2⟩
  clear h h2 hne hi hi2 ho ho2
  have hmi : (m : Int) ≤ 1000000000 := by omega
  go_enter Tryz.func40, Tryz.ntmps40
  go_wp2
  go_loopw [8] (fun iv wr => ∃ k : Nat, k ≤ m ∧ iv = .int .i64 (k : Int) ∧ Hid (Tb wr g R m (fun r x => P r x ∨ (r = i ∧ x < 64 * k ∧ Q i2 x)) ∧ Sm g w wr)) (fun iv _ => m - (intOf iv).toNat)
  case atStart => exact ⟨0, Nat.zero_le _, rfl, H0⟩
  case round =>
    obtain ⟨k, hk, rfl, HT⟩ := hrel
    by_cases hkm : k < m
    · have hki : (k : Int) < (m : Int) := by omega
      obtain ⟨a, b, d, q1, q2, q3, q4, HN⟩ := HI.out k wr hk HT hkm
      clear HT H0 HE HI
      go_wp2
      refine ⟨⟨k + 1, by omega, by simp, HN⟩, ?_⟩
      simp [intOf]; omega
    · have hki : ¬ (k : Int) < (m : Int) := by omega
      obtain rfl : k = m := by omega
      have HF := Lib.hid (HE.out wr HT)
      clear HT H0 HE HI
      go_wp2
      go_end0
      exact ⟨rfl, HF.out⟩
set_option maxHeartbeats 4000000 in
theorem mkeep_any {w : World} {g g2 R R2 m i i2 : Nat} {P Q : Nat → Nat → Prop} (h : Tb w g R m P) (h2 : Tb w g2 R2 m Q) (hne : g ≠ g2) (hi : i < R) (hi2 : i2 < R2) (hm : m ≤ 1000000000) {o o2 : Nat} (ho : 0 < m → o = i * m) (ho2 : 0 < m → o2 = i2 * m) (c c2 : Nat) :
    Calls Tryz.prog 44 #[.slice (some ⟨g, o, none⟩) m c, .slice (some ⟨g2, o2, none⟩) m c2] w fun e w' => e = .returned (.tuple #[]) ∧ Tb w' g R m (fun r x => P r x ∧ (r = i → Q i2 x)) ∧ Sm g w w' := by
  have HI : Hid (∀ k wr, k ≤ m → Hid (Tb wr g R m (fun r x => P r x ∧ (r = i → x < 64 * k → Q i2 x)) ∧ Sm g w wr) → k < m → ∃ a b d : Nat, wr.cell? ⟨g, o + k, none⟩ = some (.int .u64 (a : Int)) ∧ wr.cell? ⟨g2, o2 + k, none⟩ = some (.int .u64 (b : Int)) ∧ wr.frozen? ⟨g, o + k, none⟩ = false ∧
      bits BinOp.and IntKind.u64 (a : Int) (b : Int) = (d : Int) ∧ Hid (Tb (wr.setCell ⟨g, o + k, none⟩ (.int .u64 (d : Int))) g R m (fun r x => P r x ∧ (r = i → x < 64 * (k + 1) → Q i2 x)) ∧ Sm g w (wr.setCell ⟨g, o + k, none⟩ (.int .u64 (d : Int))))) := Lib.hid fun k wr hk H hkm => by
    obtain ⟨t1, t2⟩ := H.out
    obtain rfl := ho (by omega)
    obtain rfl := ho2 (by omega)
    have q2 := h2.onl t2.onl (Ne.symm hne)
    have e1 : wd (fun x => P i x ∧ (i = i → x < 64 * k → Q i2 x)) k = wd (P i) k := wd_congr fun b hb => by
      have : ¬ (64 * k + b < 64 * k) := by omega
      simp [this]
    refine ⟨wd (P i) k, wd (Q i2) k, _, ?_, q2.cell hi2 hkm, t1.frozen, bits_and_u64_nat _ _ (wd_lt _ _) (wd_lt _ _), Lib.hid ?_⟩
    · have := t1.cell hi hkm
      rw [this, e1]
    · rw [wd_and]
      refine ⟨(t1.set hi hkm _).congr fun r x hr hx => ?_, t2.setCell _ _⟩
      by_cases hr : r = i
      · subst hr
        by_cases hx : x / 64 = k
        · have e2 : ¬ x < 64 * k := by omega
          have e3 : x < 64 * (k + 1) := by omega
          simp [hx, e2, e3]
        · have e2 : x < 64 * k ↔ x < 64 * (k + 1) := by omega
          simp [hx, e2]
      · simp [hr]
  have H0 : Hid (Tb w g R m (fun r x => P r x ∧ (r = i → x < 64 * 0 → Q i2 x)) ∧ Sm g w w) := Lib.hid ⟨h.congr fun r x _ _ => by simp, Sm.refl _ _⟩
  have HE : Hid (∀ wr, Hid (Tb wr g R m (fun r x => P r x ∧ (r = i → x < 64 * m → Q i2 x)) ∧ Sm g w wr) → Tb wr g R m (fun r x => P r x ∧ (r = i → Q i2 x)) ∧ Sm g w wr) := Lib.hid fun wr H => ⟨H.out.1.congr fun r x _ hx => by simp [hx], H.out.2⟩
  clear h h2 hne hi hi2 ho ho2
  have hmi : (m : Int) ≤ 1000000000 := by omega
  go_enter Tryz.func44, Tryz.ntmps44
  go_wp2
  go_loopw [8] (fun iv wr => ∃ k : Nat, k ≤ m ∧ iv = .int .i64 (k : Int) ∧ Hid (Tb wr g R m (fun r x => P r x ∧ (r = i → x < 64 * k → Q i2 x)) ∧ Sm g w wr)) (fun iv _ => m - (intOf iv).toNat)
  case atStart => exact ⟨0, Nat.zero_le _, rfl, H0⟩
  case round =>
    obtain ⟨k, hk, rfl, HT⟩ := hrel
    by_cases hkm : k < m
    · have hki : (k : Int) < (m : Int) := by omega
      obtain ⟨a, b, d, q1, q2, q3, q4, HN⟩ := HI.out k wr hk HT hkm
      clear HT H0 HE HI
      go_wp2
      refine ⟨⟨k + 1, by omega, by simp, HN⟩, ?_⟩
      simp [intOf]; omega
    · have hki : ¬ (k : Int) < (m : Int) := by omega
      obtain rfl : k = m := by omega
      have HF := Lib.hid (HE.out wr HT)
      clear HT H0 HE HI
      go_wp2
      go_end0
      exact ⟨rfl, HF.out⟩
set_option maxHeartbeats 4000000 in
theorem mmeet_any {w : World} {g g2 R R2 m i i2 : Nat} {P Q : Nat → Nat → Prop} (h : Tb w g R m P) (h2 : Tb w g2 R2 m Q) (hi : i < R) (hi2 : i2 < R2) (hm : m ≤ 1000000000) {o o2 : Nat} (ho : 0 < m → o = i * m) (ho2 : 0 < m → o2 = i2 * m) (c c2 : Nat) :
    Calls Tryz.prog 80 #[.slice (some ⟨g, o, none⟩) m c, .slice (some ⟨g2, o2, none⟩) m c2] w (BoolPost (∃ x, x < 64 * m ∧ P i x ∧ Q i2 x) w) := by
  have HI : Hid (∀ k, k < m → ∃ a b d : Nat, w.cell? ⟨g, o + k, none⟩ = some (.int .u64 (a : Int)) ∧ w.cell? ⟨g2, o2 + k, none⟩ = some (.int .u64 (b : Int)) ∧
      bits BinOp.and IntKind.u64 (a : Int) (b : Int) = (d : Int) ∧ Hid (d = 0 ↔ ¬ ∃ x, x < 64 * (k + 1) ∧ 64 * k ≤ x ∧ P i x ∧ Q i2 x)) := Lib.hid fun k hkm => by
    obtain rfl := ho (by omega)
    obtain rfl := ho2 (by omega)
    refine ⟨wd (P i) k, wd (Q i2) k, _, h.cell hi hkm, h2.cell hi2 hkm, bits_and_u64_nat _ _ (wd_lt _ _) (wd_lt _ _), Lib.hid ?_⟩
    rw [wd_and, wd_zero]
    constructor
    · rintro H ⟨x, h1, h2, h3⟩
      refine H (x - 64 * k) (by omega) ?_
      rw [show 64 * k + (x - 64 * k) = x by omega]
      exact h3
    · intro H b hb hp
      exact H ⟨64 * k + b, by omega, by omega, hp⟩
  have H0 : Hid (¬ ∃ x, x < 64 * 0 ∧ P i x ∧ Q i2 x) := Lib.hid fun ⟨x, hx, _⟩ => by omega
  clear h h2 hi hi2 ho ho2
  have hmi : (m : Int) ≤ 1000000000 := by omega
  go_enter Tryz.func80, Tryz.ntmps80
  go_wp2
  go_loopw [9] (fun iv wr => ∃ k : Nat, k ≤ m ∧ iv = .int .i64 (k : Int) ∧ Hid (¬ ∃ x, x < 64 * k ∧ P i x ∧ Q i2 x) ∧ wr = w) (fun iv _ => m - (intOf iv).toNat)
  case atStart => exact ⟨0, Nat.zero_le _, rfl, H0, rfl⟩
  case round =>
    obtain ⟨k, hk, rfl, HT, rfl⟩ := hrel
    by_cases hkm : k < m
    · have hki : (k : Int) < (m : Int) := by omega
      obtain ⟨a, b, d, q1, q2, q4, HN⟩ := HI.out k hkm
      clear H0 HI
      by_cases hd : d = 0
      · subst hd
        have HN2 : Hid (¬ ∃ x, x < 64 * (k + 1) ∧ P i x ∧ Q i2 x) := Lib.hid fun ⟨x, hx, hp⟩ => by
          by_cases hxk : x < 64 * k
          · exact HT.out ⟨x, hxk, hp⟩
          · exact HN.out.1 rfl ⟨x, hx, by omega, hp⟩
        clear HN HT
        simp only [Int.cast_ofNat_Int] at q4
        go_wp2
        refine ⟨⟨k + 1, by omega, by simp, HN2, by trivial⟩, ?_⟩
        simp [intOf]; omega
      · have hd2 : ((d : Int) == 0) = false := by simp; omega
        have HF : Hid (∃ x, x < 64 * m ∧ P i x ∧ Q i2 x) := Lib.hid (by
          obtain ⟨x, h1, _, h2⟩ := Classical.not_not.1 (fun h => hd (HN.out.2 h))
          exact ⟨x, by omega, h2⟩)
        clear HN HT
        go_wp2
        refine bodyPost_ret (v := .bool true) ?_ rfl ⟨true, rfl, ⟨fun _ => HF.out, fun _ => rfl⟩, rfl⟩
        simp [results, Tryz.results80, go_sem]
    · have hki : ¬ (k : Int) < (m : Int) := by omega
      obtain rfl : k = m := by omega
      clear H0 HI
      go_wp2
      refine bodyPost_ret (v := .bool false) ?_ rfl ⟨false, rfl, ⟨fun h => (by cases h), fun h => (HT.out h).elim⟩, rfl⟩
      simp [results, Tryz.results80, go_sem]
set_option maxHeartbeats 4000000 in
theorem mnone_any {w : World} {g R m i : Nat} {P : Nat → Nat → Prop} (h : Tb w g R m P) (hi : i < R) (hm : m ≤ 1000000000) {o : Nat} (ho : 0 < m → o = i * m) (c : Nat) :
    Calls Tryz.prog 81 #[.slice (some ⟨g, o, none⟩) m c] w (BoolPost (∀ x, x < 64 * m → ¬ P i x) w) := by
  have HC := Lib.hid (mmeet_any h h hi hi hm ho ho c c)
  clear h hi ho
  go_enter Tryz.func81, Tryz.ntmps81
  go_wp2_with fail
  refine HC.out.mono ?_
  rintro e w' ⟨b, rfl, hb, rfl⟩
  have HB := Lib.hid hb
  clear hb HC
  go_wp2_with fail
  go_ret
  refine ⟨!b, rfl, ?_, rfl⟩
  have := HB.out
  cases b
  · simp at this ⊢
    exact this
  · simp at this ⊢
    obtain ⟨x, h1, h2⟩ := this
    exact ⟨x, h1, h2⟩
set_option maxHeartbeats 4000000 in
theorem madd_any {w : World} {g R m i x : Nat} {P : Nat → Nat → Prop} (h : Tb w g R m P) (hi : i < R) (hm : m ≤ 1000000000) {o : Nat} (ho : 0 < m → o = i * m) (c : Nat) (hx : x < 64 * m) :
    Calls Tryz.prog 95 #[.slice (some ⟨g, o, none⟩) m c, .int .i64 (x : Int)] w fun e w' => e = .returned (.tuple #[]) ∧ Tb w' g R m (fun r y => P r y ∨ (r = i ∧ y = x)) ∧ Sm g w w' := by
  obtain rfl := ho (by omega)
  have hk : x / 64 < m := by omega
  obtain ⟨q, hq⟩ : ∃ q, x / 64 = q := ⟨_, rfl⟩
  obtain ⟨r, hr⟩ : ∃ r, x % 64 = r := ⟨_, rfl⟩
  have q1 := h.cell hi hk
  have q3 : w.frozen? ⟨g, i * m + q, none⟩ = false := h.frozen
  have hor := bits_or_u64_nat (wd (P i) (x / 64)) (2 ^ (x % 64)) (wd_lt _ _) (Nat.pow_lt_pow_right (by decide) (Nat.mod_lt x (by decide : 0 < 64)))
  have hw2 : IntKind.u64.wrap ((2 : Int) ^ r) = ((2 ^ r : Nat) : Int) := by
    have : 2 ^ r < 2 ^ 64 := Nat.pow_lt_pow_right (by decide) (by omega)
    rw [IntKind.wrap_u64]
    have e : (2 : Int) ^ r = ((2 ^ r : Nat) : Int) := by simp
    rw [e]
    generalize 2 ^ r = B at *
    omega
  have HN := Lib.hid (And.intro ((h.set hi hk (fun y => P i y ∨ y = x)).congr (Q := fun r y => P r y ∨ (r = i ∧ y = x)) fun r y hr hy => by
    by_cases hri : r = i
    · subst hri
      by_cases hy : y / 64 = x / 64
      · simp [hy]
      · have : y ≠ x := fun e => hy (by rw [e])
        simp [hy, this]
    · simp [hri]) ((Sm.refl g w).setCell (i * m + x / 64) (.int .u64 ((wd (fun y => P i y ∨ y = x) (x / 64) : Nat) : Int))))
  rw [wd_one, wd_or] at hor
  rw [hq] at q1 hor HN hk
  rw [← hq, ← wd_one, hq, hr] at hor
  generalize wd (fun y => P i y ∨ y = x) q = d at *
  generalize wd (P i) q = a at *
  generalize i * m = o at *
  have hxq : (x : Int) / 64 = (q : Int) := by omega
  have hxr : (x : Int) % 64 = (r : Int) := by omega
  have hr64 : (r : Int) ≤ 63 := by omega
  have hqm : (q : Int) < (m : Int) := by omega
  have hx0 : (x : Int) ≤ 64000000000 := by omega
  clear h hi ho hx hq hr hk
  obtain ⟨B, hB⟩ : ∃ B, 2 ^ r = B := ⟨_, rfl⟩
  rw [hB] at hor hw2
  clear hB
  go_enter Tryz.func95, Tryz.ntmps95
  go_wp2
  go_region
  go_wp2
  go_end0
  exact ⟨rfl, HN.out.1.drew, HN.out.2.drew⟩
theorem tz64_key (x a : Nat) (hx : x < 18446744073709551616) (hx0 : x ≠ 0) (hlow : x &&& (18446744073709551616 - x) = a) :
    IntKind.u64.wrap (bits BinOp.and IntKind.u64 (x : Int) (IntKind.u64.wrap (-(x : Int))) * 285870213051353865) / 288230376151711744 = ((a * 285870213051353865 % 18446744073709551616 / 288230376151711744 : Nat) : Int) := by
  have e1 : IntKind.u64.wrap (-(x : Int)) = ((18446744073709551616 - x : Nat) : Int) := by rw [IntKind.wrap_u64]; omega
  rw [e1, bits_and_u64_nat x _ hx (by omega), hlow, IntKind.wrap_u64]
  omega
/-- The library's table of trailing zeros. -/
def Dz (w : World) : Prop := ∀ j, j < 64 → w.cell? ⟨0, j, none⟩ = some (.int .u8 (Lib.deBruijn64tab.getD j 0 : Nat))
theorem Dz.kept {w w1 : World} (h : Dz w) (hb : w1.heap[(0 : Nat)]? = w.heap[(0 : Nat)]?) : Dz w1 := fun j hj => (World.cell?_of_block (a := ⟨0, j, none⟩) hb).trans (h j hj)
theorem Dz.lt {w : World} (h : Dz w) : (0 : Nat) < w.heap.size := World.block_lt_of_cell? _ _ (h 0 (by decide))
theorem Dz.next {w w1 : World} (h : Dz w) (hb : Below w.heap.size w w1) : Dz w1 := h.kept (hb.block _ h.lt)
set_option maxHeartbeats 1000000 in
theorem tz64_core (x k idx : Nat) (w : World) (hx0 : ((x : Int) == 0) = false)
    (key : IntKind.u64.wrap (bits BinOp.and IntKind.u64 (x : Int) (IntKind.u64.wrap (-(x : Int))) * 285870213051353865) / 288230376151711744 = (idx : Int))
    (hi : idx < 64) (hk : k < 64) (hcell : w.cell? ⟨0, idx, none⟩ = some (.int .u8 (k : Nat))) :
    Calls Tryz.prog 98 #[.int .u64 x] w fun e w' => e = .returned (.int .i64 k) ∧ w' = w := by
  go_enter Tryz.func98, Tryz.ntmps98
  go_wp2_with (simp only [key])
  go_ret
  exact ⟨rfl, rfl⟩
/-- The lowest bit of a word that isn't 0. -/
theorem mtz_any (x : Nat) (hx : x < 18446744073709551616) (hx0 : x ≠ 0) (w : World) (h : Dz w) :
    Calls Tryz.prog 98 #[.int .u64 x] w fun e w' => e = .returned (.int .i64 (Lib.ctz 64 x : Nat)) ∧ w' = w := by
  obtain ⟨hlow, hk⟩ := Lib.lowest_bit 64 x hx0 hx
  obtain ⟨hi, htab⟩ := Lib.deBruijn64_at _ hk
  have hcell := h _ hi
  rw [htab] at hcell
  exact tz64_core x _ _ w (by simp; omega) (tz64_key x _ hx hx0 hlow) hi hk hcell
theorem ctz_spec (x : Nat) (hx : x < 18446744073709551616) (hx0 : x ≠ 0) : ∃ q, x = 2 ^ (Lib.ctz 64 x) * (2 * q + 1) ∧ Lib.ctz 64 x < 64 := by
  have := Lib.ctzFrom_spec 64 x (by omega) hx
  unfold Lib.ctz
  rw [if_neg hx0]
  exact this
/-- The word less its lowest bit. -/
theorem low_test (x : Nat) (hx : x < 18446744073709551616) (hx0 : x ≠ 0) (b : Nat) : (x &&& (x - 1)).testBit b = (x.testBit b && b != Lib.ctz 64 x) := by
  obtain ⟨q, hq, ht⟩ := ctz_spec x hx hx0
  generalize Lib.ctz 64 x = t at *
  have h1 : x - 1 = 2 ^ t * (2 * q) + (2 ^ t - 1) := by
    have : 0 < 2 ^ t := Nat.two_pow_pos t
    rw [hq, Nat.mul_add]; omega
  have hl : 2 ^ t - 1 < 2 ^ t := by have : 0 < 2 ^ t := Nat.two_pow_pos t; omega
  have h0 : x = 2 ^ t * (2 * q + 1) + 0 := by omega
  rw [Nat.testBit_and, h1, Nat.testBit_two_pow_mul_add _ hl]
  conv => lhs; lhs; rw [h0, Nat.testBit_two_pow_mul_add _ (Nat.two_pow_pos t)]
  conv => rhs; lhs; rw [h0, Nat.testBit_two_pow_mul_add _ (Nat.two_pow_pos t)]
  by_cases hb : b < t
  · simp [hb]
  · rw [if_neg hb, if_neg hb]
    by_cases hbt : b = t
    · subst hbt
      simp
    · obtain ⟨d, hd⟩ : ∃ d, b - t = d + 1 := ⟨b - t - 1, by omega⟩
      rw [hd, Nat.testBit_succ, Nat.testBit_succ]
      have e1 : (2 * q + 1) / 2 = q := by omega
      have e2 : 2 * q / 2 = q := by omega
      rw [e1, e2]
      simp [hbt]
theorem low_on (x : Nat) (hx : x < 18446744073709551616) (hx0 : x ≠ 0) : x.testBit (Lib.ctz 64 x) = true ∧ ∀ b, b < Lib.ctz 64 x → x.testBit b = false := by
  obtain ⟨q, hq, ht⟩ := ctz_spec x hx hx0
  generalize Lib.ctz 64 x = t at *
  have h0 : x = 2 ^ t * (2 * q + 1) + 0 := by omega
  constructor
  · rw [h0, Nat.testBit_two_pow_mul_add _ (Nat.two_pow_pos t)]; simp
  · intro b hb
    rw [h0, Nat.testBit_two_pow_mul_add _ (Nat.two_pow_pos t)]; simp [hb]
end Go.Proofs.YtmlpkimbcjkbkaaGreatDoor
