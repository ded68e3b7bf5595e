/-
 CONTRACTS of layer 9's reader: how it lies in memory; letters, digits, what stands behind a backslash; fail, done, take, dash, next.
-/
import Derived.Test.YtmbfdkiejneheaaGreatDoorLxM
import Derived.Test.YtmbfdkiejneheaaGreatDoorRgM
import Derived.WalkSpells
import Derived.WalkLawsBesides
import Derived.Lib.Hide
import Derived.Deep.QuietTactic
import Derived.BigQuiet
import Derived.IntWalk
import Derived.Lib.Strings
import Derived.Lib.IndexBytes
import Derived.Below
namespace Go.Proofs.YtmbfdkiejneheaaGreatDoor
open Go.RowKit

/-- Of what lay in memory block b alone has turned. -/
structure Onl (b : Nat) (w w' : World) : Prop where
 os : w'.os = w.os
 tape : w'.tape = w.tape
 output : w'.output = w.output
 size : w.heap.size ≤ w'.heap.size
 block : ∀ k, k < w.heap.size → k ≠ b → w'.heap[k]? = w.heap[k]?
theorem Onl.refl (b : Nat) (w : World) : Onl b w w := ⟨rfl, rfl, rfl, Nat.le_refl _, fun _ _ _ => rfl⟩
theorem Onl.trans {b : Nat} {u v w : World} (h : Onl b u v) (k : Onl b v w) : Onl b u w :=
 ⟨k.os.trans h.os, k.tape.trans h.tape, k.output.trans h.output, Nat.le_trans h.size k.size, fun i hi hne => (k.block i (Nat.lt_of_lt_of_le hi h.size) hne).trans (h.block i hi hne)⟩
theorem Onl.drew {b : Nat} {u w : World} (h : Onl b u w) : Onl b u w.drew := ⟨h.os, h.tape, h.output, h.size, h.block⟩
theorem Onl.drewN {b n : Nat} {u w : World} (h : Onl b u w) : Onl b u (w.drewN n) := ⟨h.os, h.tape, h.output, h.size, h.block⟩
theorem Onl.setCell {b : Nat} {u w : World} (h : Onl b u w) (o : Nat) (v : Value) : Onl b u (w.setCell ⟨b, o, none⟩ v) := by
 refine h.trans ⟨rfl, rfl, rfl, Nat.le_of_eq (World.size_setCell _ _ _).symm, fun k _ hne => Below.heap_setCell w _ v k hne⟩
theorem Onl.alloc {b : Nat} {u w : World} (h : Onl b u w) (o : Obj) : Onl b u (w.alloc o) :=
 h.trans ⟨rfl, rfl, rfl, by simp, fun k hk _ => Below.heap_alloc _ _ _ hk⟩
theorem Onl.of_below {b B : Nat} {w w' : World} (h : Below B w w') (hB : w.heap.size ≤ B) : Onl b w w' :=
 ⟨h.os, h.tape, h.output, h.size, fun k hk _ => h.block k (Nat.lt_of_lt_of_le hk hB)⟩
theorem Onl.below {b B : Nat} {w w' : World} (h : Onl b w w') (hb : B ≤ b) (hB : B ≤ w.heap.size) : Below B w w' :=
 ⟨h.os, h.tape, h.output, h.size, fun k hk => h.block k (Nat.lt_of_lt_of_le hk hB) (by omega)⟩
theorem Onl.cell {b : Nat} {w w' : World} (h : Onl b w w') {p : Addr} (hp : p.block < w.heap.size) (hne : p.block ≠ b) : w'.cell? p = w.cell? p := World.cell?_of_block (w := w) (h.block p.block hp hne)
theorem Onl.frozen {b : Nat} {w w' : World} (h : Onl b w w') {p : Addr} (hp : p.block < w.heap.size) (hne : p.block ≠ b) : w'.frozen? p = w.frozen? p := World.frozen?_of_block (w := w) (h.block p.block hp hne)
/-- A store to a block of the call's own. -/
theorem Onl.setNew {b : Nat} {u w : World} (h : Onl b u w) {p : Addr} (hp : u.heap.size ≤ p.block) (v : Value) : Onl b u (w.setCell p v) :=
 ⟨h.os, h.tape, h.output, by rw [World.size_setCell]; exact h.size, fun k hk hne => (Below.heap_setCell w _ v k (by omega)).trans (h.block k hk hne)⟩
theorem rg_setCell {w : World} {b i : Nat} {cur : Array Value} {e : TypeId} {fz : Nat × Nat} (h : w.heap[b]? = some (.cells cur e fz)) (v : Value) :
  (w.setCell ⟨b, i, none⟩ v).heap[b]? = some (.cells (cur.setIfInBounds i v) e fz) := by
 have hlt : b < w.heap.size := (Array.getElem?_eq_some_iff.1 h).1
 have hv : w.heap[b] = .cells cur e fz := (Array.getElem?_eq_some_iff.1 h).2
 unfold World.setCell
 rw [Array.getElem?_eq_getElem (by simpa using hlt), Array.getElem_modify]
 simp [hv]
theorem rg_cell {w : World} {b i : Nat} {cur : Array Value} {e : TypeId} {fz : Nat × Nat} (h : w.heap[b]? = some (.cells cur e fz)) : w.cell? ⟨b, i, none⟩ = cur[i]? := by
 simp [World.cell?, h]
theorem rg_frozen {w : World} {b i : Nat} {cur : Array Value} {e : TypeId} (h : w.heap[b]? = some (.cells cur e (0, 0))) : w.frozen? ⟨b, i, none⟩ = false := by
 simp [World.frozen?, h]

/-- A reader lies in block b: the text, the place, how many brackets are open, the first error's place and number. -/
def Rg (w : World) (b : Nat) (s : ByteArray) (p : Nat) (op bad er : Nat) : Prop :=
 w.heap[b]? = some (.cells #[.string s, .int .i64 (p : Int), .int .i64 (op : Int), .int .i64 (bad : Int), .int .i64 (er : Int)] 106 (0, 0))
structure RgC (w : World) (b : Nat) (s : ByteArray) (p op bad er : Nat) : Prop where
 c0 : w.cell? ⟨b, 0, none⟩ = some (.string s)
 c1 : w.cell? ⟨b, 1, none⟩ = some (.int .i64 (p : Int))
 c2 : w.cell? ⟨b, 2, none⟩ = some (.int .i64 (op : Int))
 c3 : w.cell? ⟨b, 3, none⟩ = some (.int .i64 (bad : Int))
 c4 : w.cell? ⟨b, 4, none⟩ = some (.int .i64 (er : Int))
 f1 : w.frozen? ⟨b, 1, none⟩ = false
 f2 : w.frozen? ⟨b, 2, none⟩ = false
 f3 : w.frozen? ⟨b, 3, none⟩ = false
 f4 : w.frozen? ⟨b, 4, none⟩ = false
section
variable {w w' : World} {b : Nat} {s : ByteArray} {p op bad er : Nat}
theorem Rg.cells (h : Rg w b s p op bad er) : RgC w b s p op bad er := ⟨rg_cell h, rg_cell h, rg_cell h, rg_cell h, rg_cell h, rg_frozen h, rg_frozen h, rg_frozen h, rg_frozen h⟩
theorem Rg.lt (h : Rg w b s p op bad er) : b < w.heap.size := (Array.getElem?_eq_some_iff.1 h).1
theorem Rg.drew (h : Rg w b s p op bad er) : Rg w.drew b s p op bad er := h
theorem Rg.drewN (h : Rg w b s p op bad er) (n : Nat) : Rg (w.drewN n) b s p op bad er := h
theorem Rg.alloc (h : Rg w b s p op bad er) (o : Obj) : Rg (w.alloc o) b s p op bad er := (Below.heap_alloc w o b h.lt).trans h
theorem Rg.setNew (h : Rg w b s p op bad er) {a : Addr} (ha : a.block ≠ b) (v : Value) : Rg (w.setCell a v) b s p op bad er := (Below.heap_setCell w a v b (Ne.symm ha)).trans h
theorem Rg.setP (h : Rg w b s p op bad er) (q : Nat) : Rg (w.setCell ⟨b, 1, none⟩ (.int .i64 (q : Int))) b s q op bad er := rg_setCell h _
theorem Rg.setO (h : Rg w b s p op bad er) (q : Nat) : Rg (w.setCell ⟨b, 2, none⟩ (.int .i64 (q : Int))) b s p q bad er := rg_setCell h _
theorem Rg.setB (h : Rg w b s p op bad er) (q : Nat) : Rg (w.setCell ⟨b, 3, none⟩ (.int .i64 (q : Int))) b s p op q er := rg_setCell h _
theorem Rg.setE (h : Rg w b s p op bad er) (q : Nat) : Rg (w.setCell ⟨b, 4, none⟩ (.int .i64 (q : Int))) b s p op bad q := rg_setCell h _
theorem Rg.below (h : Rg w b s p op bad er) (hb : Below w.heap.size w w') : Rg w' b s p op bad er := (hb.block b h.lt).trans h
end
def RgPost (b : Nat) (s : ByteArray) (p op bad er : Nat) (w w' : World) : Prop := Rg w' b s p op bad er ∧ Onl b w w'

/-! Texts and what is left of them. -/
theorem rg_at (s : ByteArray) (j : Nat) (hj : j < s.size) : s.data.toList[j]? = some s[j] := by
 have h : j < s.data.size := hj
 rw [List.getElem?_eq_getElem (by simpa using h)]; rfl
theorem rg_cons {s : ByteArray} {c : UInt8} {r : List UInt8} (h : (c :: r) <:+ s.data.toList) :
  ∃ p, ∃ hp : p < s.size, s[p] = c ∧ s.size - (r.length + 1) = p ∧ s.size - r.length = p + 1 ∧ r <:+ s.data.toList ∧ r.length + 1 ≤ s.size := by
 obtain ⟨t, ht⟩ := h
 have hl : s.size = t.length + (r.length + 1) := by
  have : s.data.toList.length = s.size := by simp
  rw [← this, ← ht]; simp
 have hp : t.length < s.size := by omega
 refine ⟨t.length, hp, ?_, by omega, by omega, ⟨t ++ [c], by simpa using ht⟩, by omega⟩
 have h2 := rg_at s t.length hp
 rw [← ht] at h2
 simp at h2
 exact h2.symm
theorem rg_len {s : ByteArray} {r : List UInt8} (h : r <:+ s.data.toList) : r.length ≤ s.size := by
 have := h.length_le; simpa using this

theorem rglet_any (c : UInt8) (w : World) : Calls Tryz.prog 147 #[.int .u8 (c.toNat : Int)] w fun e w' => e = .returned (.bool (letB c)) ∧ w = w' := by
 have hw : ∀ x : Bool, letB c = x → Hid (Calls Tryz.prog 147 #[.int .u8 (c.toNat : Int)] w fun e w' => e = .returned (.bool x) ∧ w = w') → Calls Tryz.prog 147 #[.int .u8 (c.toNat : Int)] w fun e w' => e = .returned (.bool (letB c)) ∧ w = w' := fun x h k => by rw [h]; exact k.out
 rcases (show (97 ≤ c.toNat ∧ c.toNat ≤ 122) ∨ (¬ 97 ≤ c.toNat ∧ 65 ≤ c.toNat ∧ c.toNat ≤ 90) ∨ (¬ 97 ≤ c.toNat ∧ 65 ≤ c.toNat ∧ ¬ c.toNat ≤ 90) ∨ (¬ 97 ≤ c.toNat ∧ ¬ 65 ≤ c.toNat) ∨ (97 ≤ c.toNat ∧ ¬ c.toNat ≤ 122) from by omega) with ⟨h1, h2⟩ | ⟨h1, h2, h3⟩ | ⟨h1, h2, h3⟩ | ⟨h1, h2⟩ | ⟨h1, h2⟩
 ·
  refine hw true (by simp [letB, UInt8.le_iff_toNat_le]; omega) (kH ?_)
  have e1 : (97 : Int) ≤ (c.toNat : Int) := by omega
  have e2 : (c.toNat : Int) ≤ 122 := by omega
  go_enter Tryz.func147, Tryz.ntmps147
  go_wp2
  go_ret
  first | (simp; done) | (simp; omega)
 ·
  refine hw true (by simp [letB, UInt8.le_iff_toNat_le]; omega) (kH ?_)
  have e1 : ¬ (97 : Int) ≤ (c.toNat : Int) := by omega
  have e2 : (65 : Int) ≤ (c.toNat : Int) := by omega
  have e3 : (c.toNat : Int) ≤ 90 := by omega
  go_enter Tryz.func147, Tryz.ntmps147
  go_wp2
  go_ret
  first | (simp; done) | (simp; omega)
 ·
  refine hw false (by rw [Bool.eq_false_iff]; simp [letB, UInt8.le_iff_toNat_le]; omega) (kH ?_)
  have e1 : ¬ (97 : Int) ≤ (c.toNat : Int) := by omega
  have e2 : (65 : Int) ≤ (c.toNat : Int) := by omega
  have e3 : ¬ (c.toNat : Int) ≤ 90 := by omega
  go_enter Tryz.func147, Tryz.ntmps147
  go_wp2
  go_ret
  first | (simp; done) | (simp; omega)
 ·
  refine hw false (by rw [Bool.eq_false_iff]; simp [letB, UInt8.le_iff_toNat_le]; omega) (kH ?_)
  have e1 : ¬ (97 : Int) ≤ (c.toNat : Int) := by omega
  have e2 : ¬ (65 : Int) ≤ (c.toNat : Int) := by omega
  go_enter Tryz.func147, Tryz.ntmps147
  go_wp2
  go_ret
  first | (simp; done) | (simp; omega)
 ·
  refine hw false (by rw [Bool.eq_false_iff]; simp [letB, UInt8.le_iff_toNat_le]; omega) (kH ?_)
  have e1 : (97 : Int) ≤ (c.toNat : Int) := by omega
  have e2 : ¬ (c.toNat : Int) ≤ 122 := by omega
  have e3 : (65 : Int) ≤ (c.toNat : Int) := by omega
  have e5 : ¬ (c.toNat : Int) ≤ 90 := by omega
  go_enter Tryz.func147, Tryz.ntmps147
  go_wp2
  go_ret
  first | (simp; done) | (simp; omega)
theorem rglet_q (c : UInt8) (w : World) : Calls Tryz.prog 147 #[.int .u8 (c.toNat : Int)] w fun e w' => e = .returned (.bool (letB c)) ∧ w' = w := (rglet_any c w).mono fun _ _ h => ⟨h.1, h.2.symm⟩
theorem rgdig_any (c : UInt8) (w : World) : Calls Tryz.prog 148 #[.int .u8 (c.toNat : Int)] w fun e w' => e = .returned (.bool (digB c)) ∧ w = w' := by
 have hw : ∀ x : Bool, digB c = x → Hid (Calls Tryz.prog 148 #[.int .u8 (c.toNat : Int)] w fun e w' => e = .returned (.bool x) ∧ w = w') → Calls Tryz.prog 148 #[.int .u8 (c.toNat : Int)] w fun e w' => e = .returned (.bool (digB c)) ∧ w = w' := fun x h k => by rw [h]; exact k.out
 rcases (show (48 ≤ c.toNat ∧ c.toNat ≤ 57) ∨ (¬ 48 ≤ c.toNat) ∨ (48 ≤ c.toNat ∧ ¬ c.toNat ≤ 57) from by omega) with ⟨h1, h2⟩ | h1 | ⟨h1, h2⟩
 ·
  refine hw true (by simp [digB, UInt8.le_iff_toNat_le]; omega) (kH ?_)
  have e1 : (48 : Int) ≤ (c.toNat : Int) := by omega
  have e2 : (c.toNat : Int) ≤ 57 := by omega
  go_enter Tryz.func148, Tryz.ntmps148
  go_wp2
  go_ret
  first | (simp; done) | (simp; omega)
 ·
  refine hw false (by rw [Bool.eq_false_iff]; simp [digB, UInt8.le_iff_toNat_le]; omega) (kH ?_)
  have e1 : ¬ (48 : Int) ≤ (c.toNat : Int) := by omega
  go_enter Tryz.func148, Tryz.ntmps148
  go_wp2
  go_ret
  first | (simp; done) | (simp; omega)
 ·
  refine hw false (by rw [Bool.eq_false_iff]; simp [digB, UInt8.le_iff_toNat_le]; omega) (kH ?_)
  have e1 : (48 : Int) ≤ (c.toNat : Int) := by omega
  have e2 : ¬ (c.toNat : Int) ≤ 57 := by omega
  go_enter Tryz.func148, Tryz.ntmps148
  go_wp2
  go_ret
  first | (simp; done) | (simp; omega)
theorem rgdig_q (c : UInt8) (w : World) : Calls Tryz.prog 148 #[.int .u8 (c.toNat : Int)] w fun e w' => e = .returned (.bool (digB c)) ∧ w' = w := (rgdig_any c w).mono fun _ _ h => ⟨h.1, h.2.symm⟩
set_option maxHeartbeats 1000000 in
/-- What stands behind a backslash. -/
theorem resc_none (w : World) : Calls Tryz.prog 145 #[.string ⟨#[]⟩] w fun e w' => e = .returned (.tuple #[.int .u8 0, .bool false]) ∧ ∃ n, w' = w.drewN n := by
 go_enter Tryz.func145, Tryz.ntmps145
 go_wp2
 go_ret2
 exact ⟨rfl, 0, rfl⟩
def escZ (c : UInt8) : Int := match escB c with | some x => (x.toNat : Int) | none => if c.toNat < 32 ∨ 126 < c.toNat then 0 else (c.toNat : Int)
def EscPost (c : UInt8) (w : World) (e : Ending) (w' : World) : Prop := e = .returned (.tuple #[.int .u8 (escZ c), .bool (escB c).isSome]) ∧ ∃ n, w' = w.drewN n
set_option maxHeartbeats 2000000 in
theorem rgesc_any (t : ByteArray) (h : 0 < t.size) (ht : t.size ≤ 100000) (w : World) : Calls Tryz.prog 145 #[.string t] w (EscPost t[0] w) := by
 have CL := kH fun W => rglet_q t[0] W
 have CD := kH fun W => rgdig_q t[0] W
 have he : t.toList.isEmpty = false := by
  rw [ByteArray.toList_eq, Bool.eq_false_iff, ne_eq, List.isEmpty_iff]
  intro e
  have : t.data.toList.length = t.size := by simp
  rw [e] at this; simp at this; omega
 have hcb := t[0].toNat_lt
 have key : ∀ (x : Option UInt8) (z : Int) (o : Bool), escB t[0] = x → x.isSome = o → (match x with | some y => (y.toNat : Int) | none => if t[0].toNat < 32 ∨ 126 < t[0].toNat then 0 else (t[0].toNat : Int)) = z → Hid (Calls Tryz.prog 145 #[.string t] w fun e w' => e = .returned (.tuple #[.int .u8 z, .bool o]) ∧ ∃ n, w' = w.drewN n) → Calls Tryz.prog 145 #[.string t] w (EscPost t[0] w) := fun x z o h1 h2 h3 k => by
  unfold EscPost escZ; rw [h1, h2, h3]; exact k.out
 have u8 : ∀ n : Nat, n < 256 → (t[0] = UInt8.ofNat n ↔ t[0].toNat = n) := fun n hn => by
  rw [← UInt8.toNat_inj, UInt8.toNat_ofNat_of_lt' hn]
 by_cases h1 : t[0].toNat < 32
 ·
  refine key none 0 false (by unfold escB; rw [if_pos (Or.inl (by rw [UInt8.lt_iff_toNat_lt]; exact h1))]) rfl (if_pos (Or.inl h1)) (kH ?_)
  have g1 : (t[0].toNat : Int) < 32 := by omega
  clear key u8 CL CD
  go_enter Tryz.func145, Tryz.ntmps145
  go_wp2
  go_ret2
  exact ⟨rfl, 0, rfl⟩
 by_cases h2 : 126 < t[0].toNat
 ·
  refine key none 0 false (by unfold escB; rw [if_pos (Or.inr (by rw [UInt8.lt_iff_toNat_lt]; exact h2))]) rfl (if_pos (Or.inr h2)) (kH ?_)
  have g1 : ¬ (t[0].toNat : Int) < 32 := by omega
  have g2 : 126 < (t[0].toNat : Int) := by omega
  clear key u8 CL CD
  go_enter Tryz.func145, Tryz.ntmps145
  go_wp2
  go_ret2
  exact ⟨rfl, 0, rfl⟩
 have e0 : ¬ (t[0] < 32 ∨ (126 : UInt8) < t[0]) := by rw [UInt8.lt_iff_toNat_lt, UInt8.lt_iff_toNat_lt]; exact fun h => h.elim h1 h2
 have g1 : ¬ (t[0].toNat : Int) < 32 := by omega
 have g2 : ¬ 126 < (t[0].toNat : Int) := by omega
 by_cases h3 : t[0].toNat = 110
 ·
  refine key (some 10) 10 true (by unfold escB; rw [if_neg e0, if_pos (show t[0] = 110 from (u8 110 (by omega)).2 h3)]) rfl rfl (kH ?_)
  have g3 : ((t[0].toNat : Int) == 110) = true := by simp; omega
  clear key u8 CL CD
  go_enter Tryz.func145, Tryz.ntmps145
  go_wp2
  go_ret2
  exact ⟨rfl, 0, rfl⟩
 have e1 : ¬ t[0] = 110 := fun h => h3 ((u8 110 (by omega)).1 h)
 have g3 : ((t[0].toNat : Int) == 110) = false := by rw [Bool.eq_false_iff]; simp; omega
 by_cases h4 : t[0].toNat = 116
 ·
  refine key (some 9) 9 true (by unfold escB; rw [if_neg e0, if_neg e1, if_pos (show t[0] = 116 from (u8 116 (by omega)).2 h4)]) rfl rfl (kH ?_)
  have g4 : ((t[0].toNat : Int) == 116) = true := by simp; omega
  clear key u8 CL CD
  go_enter Tryz.func145, Tryz.ntmps145
  go_wp2
  go_ret2
  exact ⟨rfl, 0, rfl⟩
 have e2 : ¬ t[0] = 116 := fun h => h4 ((u8 116 (by omega)).1 h)
 have g4 : ((t[0].toNat : Int) == 116) = false := by rw [Bool.eq_false_iff]; simp; omega
 have e3 : escB t[0] = if letB t[0] || digB t[0] then none else some t[0] := by unfold escB; rw [if_neg e0, if_neg e1, if_neg e2]
 cases hl : letB t[0] with
 | true =>
  refine key none _ false (by rw [e3, hl]; rfl) rfl (if_neg (fun h => h.elim h1 h2)) (kH ?_)
  rw [hl] at CL
  clear key u8 CD e3 e0 e1 e2 h1 h2 h3 h4 hl
  go_enter Tryz.func145, Tryz.ntmps145
  go_wp2_with fail
  go_quiet ((go_at_call 147; exact Calls.quiet_of_same (CL.out _)))
  go_wp2_with fail
  go_ret2
  exact ⟨rfl, _, rfl⟩
 | false =>
  rw [hl] at CL
  cases hd : digB t[0] with
  | true =>
   refine key none _ false (by rw [e3, hl, hd]; rfl) rfl (if_neg (fun h => h.elim h1 h2)) (kH ?_)
   rw [hd] at CD
   clear key u8 e3 e0 e1 e2 h1 h2 h3 h4 hl hd
   go_enter Tryz.func145, Tryz.ntmps145
   go_wp2_with fail
   go_quiet ((first | (go_at_call 147; exact Calls.quiet_of_same (CL.out _)) | (go_at_call 148; exact Calls.quiet_of_same (CD.out _))))
   go_wp2_with fail
   go_ret2
   exact ⟨rfl, _, rfl⟩
  | false =>
   refine key (some t[0]) _ true (by rw [e3, hl, hd]; rfl) rfl rfl (kH ?_)
   rw [hd] at CD
   clear key u8 e3 e0 e1 e2 h1 h2 h3 h4 hl hd
   go_enter Tryz.func145, Tryz.ntmps145
   go_wp2_with fail
   go_quiet ((first | (go_at_call 147; exact Calls.quiet_of_same (CL.out _)) | (go_at_call 148; exact Calls.quiet_of_same (CD.out _))))
   go_wp2_with fail
   go_ret2
   exact ⟨rfl, _, rfl⟩
set_option maxHeartbeats 1000000 in
theorem rfail_any (b : Nat) (s : ByteArray) (p op bad er q n : Nat) (w : World) (h : Rg w b s p op bad er) :
  Calls Tryz.prog 132 #[.pointer (some ⟨b, 0, none⟩), .int .i64 (q : Int), .int .i64 (n : Int)] w fun e w' => e = .returned (.tuple #[]) ∧ RgPost b s s.size op (if er = 0 then q else bad) (if er = 0 then n else er) w w' := by
 by_cases he : er = 0
 ·
  subst he
  rw [if_pos rfl, if_pos rfl]
  have H : RgPost b s s.size op q n w (((w.setCell ⟨b, 3, none⟩ (.int .i64 (q : Int))).setCell ⟨b, 4, none⟩ (.int .i64 (n : Int))).setCell ⟨b, 1, none⟩ (.int .i64 (s.size : Int))) :=
   ⟨((h.setB q).setE n).setP s.size, (((Onl.refl b w).setCell 3 _).setCell 4 _).setCell 1 _⟩
  have HH := kH H
  obtain ⟨c0, c1, c2, c3, c4, f1, f2, f3, f4⟩ := h.cells
  clear H h
  go_enter Tryz.func132, Tryz.ntmps132
  go_wp2_with fail
  go_end0
  exact ⟨rfl, HH.out⟩
 ·
  rw [if_neg he, if_neg he]
  have H : RgPost b s s.size op bad er w (w.setCell ⟨b, 1, none⟩ (.int .i64 (s.size : Int))) := ⟨h.setP s.size, (Onl.refl b w).setCell 1 _⟩
  have HH := kH H
  obtain ⟨c0, c1, c2, c3, c4, f1, f2, f3, f4⟩ := h.cells
  have he2 : ((er : Int) == 0) = false := by rw [Bool.eq_false_iff]; simp; omega
  clear H h
  go_enter Tryz.func132, Tryz.ntmps132
  go_wp2_with fail
  go_end0
  exact ⟨rfl, HH.out⟩
theorem rfail0 (b : Nat) (s : ByteArray) (p op bad q n : Nat) (w : World) (h : Rg w b s p op bad 0) :
  Calls Tryz.prog 132 #[.pointer (some ⟨b, 0, none⟩), .int .i64 (q : Int), .int .i64 (n : Int)] w fun e w' => e = .returned (.tuple #[]) ∧ RgPost b s s.size op q n w w' := by
 have := rfail_any b s p op bad 0 q n w h
 rwa [if_pos rfl, if_pos rfl] at this
theorem rfail1 (b : Nat) (s : ByteArray) (p op bad er q n : Nat) (w : World) (h : Rg w b s p op bad er) (he : er ≠ 0) :
  Calls Tryz.prog 132 #[.pointer (some ⟨b, 0, none⟩), .int .i64 (q : Int), .int .i64 (n : Int)] w fun e w' => e = .returned (.tuple #[]) ∧ RgPost b s s.size op bad er w w' := by
 have := rfail_any b s p op bad er q n w h
 rwa [if_neg he, if_neg he] at this
set_option maxHeartbeats 1000000 in
theorem rdone_yes (b : Nat) (s : ByteArray) (op bad er : Nat) (w : World) (h : Rg w b s s.size op bad er) :
  Calls Tryz.prog 131 #[.pointer (some ⟨b, 0, none⟩)] w fun e w' => e = .returned (.bool true) ∧ ∃ n, w' = w.drewN n := by
 obtain ⟨c0, c1, c2, c3, c4, f1, f2, f3, f4⟩ := h.cells
 go_enter Tryz.func131, Tryz.ntmps131
 go_wp2_with fail
 go_quiet (fail)
 go_wp2_with fail
 go_ret
 exact ⟨rfl, _, rfl⟩
set_option maxHeartbeats 1000000 in
theorem rdone_no (b : Nat) (s : ByteArray) (p op bad er : Nat) (w : World) (h : Rg w b s p op bad er) (hp : p < s.size) :
  Calls Tryz.prog 131 #[.pointer (some ⟨b, 0, none⟩)] w fun e w' => e = .returned (.bool false) ∧ ∃ n, w' = w.drewN n := by
 obtain ⟨c0, c1, c2, c3, c4, f1, f2, f3, f4⟩ := h.cells
 have hq : ((p : Int) == (s.size : Int)) = false := by rw [Bool.eq_false_iff]; simp; omega
 go_enter Tryz.func131, Tryz.ntmps131
 go_wp2_with fail
 go_quiet (fail)
 go_wp2_with fail
 go_ret
 exact ⟨rfl, _, rfl⟩
set_option maxHeartbeats 1000000 in
theorem rtake_yes (b : Nat) (s : ByteArray) (p op bad er : Nat) (c : UInt8) (w : World) (h : Rg w b s p op bad er) (hp : p < s.size) (hc : s[p] = c) (hs : s.size ≤ 100000) :
  Calls Tryz.prog 134 #[.pointer (some ⟨b, 0, none⟩), .int .u8 (c.toNat : Int)] w fun e w' => e = .returned (.bool true) ∧ RgPost b s (p + 1) op bad er w w' := by
 have D := kH fun W H => rdone_no b s p op bad er W H hp
 have HR := kH h
 obtain ⟨c0, c1, c2, c3, c4, f1, f2, f3, f4⟩ := h.cells
 have hpi : (p : Int) < (s.size : Int) := by omega
 have hpi2 : decide ((p : Int) < (s.size : Int)) = true := by simpa using hpi
 subst hc
 clear h
 go_enter Tryz.func134, Tryz.ntmps134
 go_wp2_with fail
 go_quiet ((go_at_call 131; exact Calls.quiet_of (D.out _ (HR.out.drewN _))))
 go_wp2_with fail
 go_ret
 exact ⟨rfl, (HR.out.drewN _).setP (p + 1), (Onl.refl b w).drewN.setCell 1 _⟩
set_option maxHeartbeats 1000000 in
theorem rtake_end (b : Nat) (s : ByteArray) (op bad er : Nat) (c : Int) (w : World) (h : Rg w b s s.size op bad er) :
  Calls Tryz.prog 134 #[.pointer (some ⟨b, 0, none⟩), .int .u8 c] w fun e w' => e = .returned (.bool false) ∧ ∃ n, w' = w.drewN n := by
 have D := kH fun W H => rdone_yes b s op bad er W H
 have HR := kH h
 clear h
 go_enter Tryz.func134, Tryz.ntmps134
 go_wp2_with fail
 go_quiet ((go_at_call 131; exact Calls.quiet_of (D.out _ (HR.out.drewN _))))
 go_wp2_with fail
 go_ret
 exact ⟨rfl, _, rfl⟩
set_option maxHeartbeats 1000000 in
theorem rtake_no (b : Nat) (s : ByteArray) (p op bad er : Nat) (c : UInt8) (w : World) (h : Rg w b s p op bad er) (hp : p < s.size) (hc : s[p] ≠ c) :
  Calls Tryz.prog 134 #[.pointer (some ⟨b, 0, none⟩), .int .u8 (c.toNat : Int)] w fun e w' => e = .returned (.bool false) ∧ ∃ n, w' = w.drewN n := by
 have D := kH fun W H => rdone_no b s p op bad er W H hp
 have HR := kH h
 obtain ⟨c0, c1, c2, c3, c4, f1, f2, f3, f4⟩ := h.cells
 have hpi : (p : Int) < (s.size : Int) := by omega
 have hpi2 : decide ((p : Int) < (s.size : Int)) = true := by simpa using hpi
 have hq : ((s[p].toNat : Int) != (c.toNat : Int)) = true := by
  rw [bne_iff_ne]; intro e; exact hc (UInt8.toNat_inj.1 (by omega))
 clear h
 go_enter Tryz.func134, Tryz.ntmps134
 go_wp2_with fail
 go_quiet ((go_at_call 131; exact Calls.quiet_of (D.out _ (HR.out.drewN _))))
 go_wp2_with fail
 go_ret
 exact ⟨rfl, _, rfl⟩
/-- What is left, as a text. -/
theorem rg_rest {s : ByteArray} {l : List UInt8} (hl : l <:+ s.data.toList) : (s.extract (s.size - l.length) s.size).data.toList = l := by
 obtain ⟨t, ht⟩ := hl
 have e0 : s.data.toList.length = s.size := by simp
 have hs : s.size = t.length + l.length := by rw [← e0, ← ht]; simp
 rw [ByteArray.data_extract, Array.toList_extract, List.extract_eq_take_drop, ← ht]
 have e : s.size - l.length = t.length := by omega
 rw [e, List.drop_left, List.take_of_length_le (by omega)]
theorem rg_rest_size {s : ByteArray} {l : List UInt8} (hl : l <:+ s.data.toList) : (s.extract (s.size - l.length) s.size).size = l.length := by
 have := congrArg List.length (rg_rest hl)
 simpa using this
theorem rg_rest_get {s : ByteArray} {l : List UInt8} (hl : l <:+ s.data.toList) (j : Nat) (h1 : j < (s.extract (s.size - l.length) s.size).size) (h2 : j < l.length) : (s.extract (s.size - l.length) s.size)[j] = l[j] := by
 have h3 := rg_at _ j h1
 rw [rg_rest hl, List.getElem?_eq_getElem h2] at h3
 exact (Option.some.inj h3).symm
set_option maxHeartbeats 1000000 in
theorem rdash_any (b : Nat) (s : ByteArray) (op bad er : Nat) (l : List UInt8) (w : World) (h : Rg w b s (s.size - l.length) op bad er) (hl : l <:+ s.data.toList) (hs : s.size ≤ 100000) :
  Calls Tryz.prog 146 #[.pointer (some ⟨b, 0, none⟩)] w fun e w' => e = .returned (.bool (dashB l)) ∧ ∃ n, w' = w.drewN n := by
 have hsz := rg_rest_size hl
 have hget := rg_rest_get hl
 have hlen := rg_len hl
 obtain ⟨c0, c1, c2, c3, c4, f1, f2, f3, f4⟩ := h.cells
 obtain ⟨p, hp⟩ : ∃ p, s.size - l.length = p := ⟨_, rfl⟩
 have hps : p ≤ s.size := by omega
 rw [hp] at hsz hget c1
 have hpi : (p : Int) ≤ (s.size : Int) := by omega
 clear h hp hl
 rcases l with _ | ⟨x, _ | ⟨y, r⟩⟩
 ·
  rw [show dashB [] = false from rfl]
  rw [List.length_nil] at hsz
  clear hget
  go_enter Tryz.func146, Tryz.ntmps146
  go_wp2_with fail
  go_quiet (fail)
  generalize s.extract p s.size = R at *
  go_wp2_with fail
  go_ret
  exact ⟨rfl, _, rfl⟩
 ·
  rw [show dashB [x] = false from rfl]
  replace hsz : (s.extract p s.size).size = 1 := hsz
  clear hget
  go_enter Tryz.func146, Tryz.ntmps146
  go_wp2_with fail
  go_quiet (fail)
  generalize s.extract p s.size = R at *
  go_wp2_with fail
  go_ret
  exact ⟨rfl, _, rfl⟩
 ·
  have hz2 : 1 < (s.extract p s.size).size := by rw [hsz]; simp
  have hz0 : 0 < (s.extract p s.size).size := by omega
  have q0 : (s.extract p s.size)[0] = x := hget 0 hz0 (by simp)
  have q1 : (s.extract p s.size)[1] = y := hget 1 hz2 (by simp)
  have hzb : (s.extract p s.size).size ≤ 100000 := by rw [hsz]; simp at hlen ⊢; omega
  rw [show dashB (x :: y :: r) = (x == 45 && y != 93) from rfl]
  clear hget hsz
  by_cases h1 : x = 45
  ·
   subst h1
   rw [show ((45 : UInt8) == 45) = true from rfl, Bool.true_and]
   by_cases h2 : y = 93
   ·
    subst h2
    go_enter Tryz.func146, Tryz.ntmps146
    go_wp2_with fail
    go_quiet (fail)
    generalize s.extract p s.size = R at *
    have g0 : (R[0].toNat : Int) = 45 := by rw [q0]; rfl
    have g1 : ((R[1].toNat : Int) != 93) = false := by rw [q1]; rfl
    clear q0 q1
    go_wp2_with fail
    go_ret
    exact ⟨rfl, _, rfl⟩
   ·
    have hy : (y != 93) = true := by simpa using h2
    have hyn : ¬ y.toNat = 93 := fun e => h2 (UInt8.toNat_inj.1 e)
    rw [hy]
    go_enter Tryz.func146, Tryz.ntmps146
    go_wp2_with fail
    go_quiet (fail)
    generalize s.extract p s.size = R at *
    have g0 : (R[0].toNat : Int) = 45 := by rw [q0]; rfl
    have g1 : ((R[1].toNat : Int) != 93) = true := by rw [q1, bne_iff_ne]; omega
    clear q0 q1 hy
    go_wp2_with fail
    go_ret
    exact ⟨rfl, _, rfl⟩
  ·
   have hx : (x == 45) = false := by simpa using h1
   have hxn : ¬ x.toNat = 45 := fun e => h1 (UInt8.toNat_inj.1 e)
   rw [hx, Bool.false_and]
   go_enter Tryz.func146, Tryz.ntmps146
   go_wp2_with fail
   go_quiet (fail)
   generalize s.extract p s.size = R at *
   have g0 : ¬ (R[0].toNat : Int) = 45 := by rw [q0]; omega
   clear q0 q1 hx
   go_wp2_with fail
   go_ret
   exact ⟨rfl, _, rfl⟩
end Go.Proofs.YtmbfdkiejneheaaGreatDoor
