/-
  THE DISK's CONTRACTS as the statements use them: a disk (Dsk) in, a disk out.
-/
import Derived.Test.YtaoifbdojleenaaDkWD
namespace Go.Proofs.Ytaoifbdojleenaa
open Go.RowKit Go.Maps

variable {Fp : Nat → Prop} {w : World} {Bd : Nat} {d : DS} {m : Nat}
theorem Dsk.below {w' : World} (h : Dsk Fp w Bd d m) (hb : Below w.heap.size w w') : Dsk Fp w' Bd d m := by
  obtain ⟨a, b, c, hne, hD⟩ := h
  exact ⟨a, b, c, hne, hD.below hb⟩
theorem Dsk.wider (h : Dsk Fp w Bd d m) {Fq : Nat → Prop} (hq : ∀ j, j < w.heap.size → Fp j → Fq j) : Dsk Fq w Bd d m := by
  obtain ⟨a, b, c, hne, hD⟩ := h
  exact ⟨a, b, c, hne, hD.wider hq⟩
theorem Dsk.more (h : Dsk Fp w Bd d m) {k : Nat} (hk : m ≤ k) (hk2 : k ≤ 100000) : Dsk Fp w Bd d k := by
  obtain ⟨a, b, c, hne, hD⟩ := h
  exact ⟨a, b, c, hne, hD.more hk hk2⟩
theorem Dsk.lt (h : Dsk Fp w Bd d m) : Bd < w.heap.size := by
  obtain ⟨a, b, c, hne, hD⟩ := h
  exact hD.ltB
theorem append_d (h : Dsk Fp w Bd d m) (hF : Up Fp w) (s t : ByteArray) (hs : s.size ≤ 100000000) (ht : t.size ≤ 100000000) (hm : 100 ≤ m) :
    Calls Try.prog 17 #[.pointer (some ⟨Bd, 0, none⟩), .string s, .string t] w fun e w' => e = .returned (.int .i64 (appE d s t)) ∧ ∃ b, ¬ d.Has b ∧ OpPost Fp w Bd (appD d s t b) m w' := by
  obtain ⟨a, b, c, hne, hD⟩ := h
  exact append_any hD hne hF s hs t ht hm
theorem sync_d (h : Dsk Fp w Bd d m) (s : ByteArray) (hs : s.size ≤ 100000000) :
    Calls Try.prog 18 #[.pointer (some ⟨Bd, 0, none⟩), .string s] w fun e w' => e = .returned (.int .i64 (synE d s)) ∧ OpPost Fp w Bd (synD d s) m w' := by
  obtain ⟨a, b, c, hne, hD⟩ := h
  exact sync_any hD hne s hs
theorem sdir_d (h : Dsk Fp w Bd d m) (hF : Up Fp w) :
    Calls Try.prog 19 #[.pointer (some ⟨Bd, 0, none⟩)] w fun e w' => e = .returned (.int .i64 (sdE d)) ∧ OpPost Fp w Bd (sdD d) m w' := by
  obtain ⟨a, b, c, hne, hD⟩ := h
  exact sdir_any hD hne hF
theorem read_d (h : Dsk Fp w Bd d m) (s : ByteArray) (hs : s.size ≤ 100000000) (x n : Int) (hx : x ≤ 9223372036854775807) (hn : n ≤ 9223372036854775807) :
    Calls Try.prog 24 #[.pointer (some ⟨Bd, 0, none⟩), .string s, .int .i64 x, .int .i64 n] w fun e w' => e = .returned (.tuple #[.string (readS d s x n), .int .i64 (readE d s x n)]) ∧ Below w.heap.size w w' := by
  obtain ⟨a, b, c, hne, hD⟩ := h
  exact read_any hD s hs x n hx hn
theorem used_d (h : Dsk Fp w Bd d m) : Calls Try.prog 28 #[.pointer (some ⟨Bd, 0, none⟩)] w fun e w' => e = .returned (.int .i64 (usedD d)) ∧ Below w.heap.size w w' := by
  obtain ⟨a, b, c, hne, hD⟩ := h
  exact used_any hD
theorem dead_d (h : Dsk Fp w Bd d m) : Calls Try.prog 26 #[.pointer (some ⟨Bd, 0, none⟩)] w fun e w' => e = .returned (.bool d.dead) ∧ w' = w := by
  obtain ⟨a, b, c, hne, hD⟩ := h
  exact dead_any hD
theorem quota_d (h : Dsk Fp w Bd d m) (q : Int) (hq : q ≤ 9223372036854775807) :
    Calls Try.prog 29 #[.pointer (some ⟨Bd, 0, none⟩), .int .i64 q] w fun e w' => e = .returned (.tuple #[]) ∧ OpPost Fp w Bd (qDS d q) m w' := by
  obtain ⟨a, b, c, hne, hD⟩ := h
  exact (quota_any hD q hq).mono (fun e w' ⟨h1, h2, h3⟩ => ⟨h1, ⟨_, _, _, hne, h2⟩, h3⟩)
theorem size_d (h : Dsk Fp w Bd d m) (s : ByteArray) (hs : s.size ≤ 100000000) :
    Calls Try.prog 30 #[.pointer (some ⟨Bd, 0, none⟩), .string s] w fun e w' => e = .returned (.tuple #[.int .i64 (sizeR d s.data.toList), .int .i64 (findE d s.data.toList)]) ∧ w' = w := by
  obtain ⟨a, b, c, hne, hD⟩ := h
  exact size_any hD s hs
theorem arm_d (h : Dsk Fp w Bd d m) (n : Int) (hn : -9223372036854775808 ≤ n ∧ n ≤ 9223372036854775807) :
    Calls Try.prog 25 #[.pointer (some ⟨Bd, 0, none⟩), .int .i64 n] w fun e w' => e = .returned (.tuple #[]) ∧ OpPost Fp w Bd (armDS d n) m w' := by
  obtain ⟨a, b, c, hne, hD⟩ := h
  exact (arm_any hD n hn).mono (fun e w' ⟨h1, h2, h3⟩ => ⟨h1, ⟨_, _, _, hne, h2⟩, h3⟩)
theorem ren_d (h : Dsk Fp w Bd d m) (s t : ByteArray) (hs : s.size ≤ 100000000) (ht : t.size ≤ 100000000) :
    Calls Try.prog 21 #[.pointer (some ⟨Bd, 0, none⟩), .string s, .string t] w fun e w' => e = .returned (.int .i64 (renE d s t)) ∧ OpPost Fp w Bd (renD d s t) m w' := by
  obtain ⟨a, b, c, hne, hD⟩ := h
  exact ren_any hD hne s hs t ht
theorem rem_d (h : Dsk Fp w Bd d m) (s : ByteArray) (hs : s.size ≤ 100000000) :
    Calls Try.prog 22 #[.pointer (some ⟨Bd, 0, none⟩), .string s] w fun e w' => e = .returned (.int .i64 (remE d s)) ∧ OpPost Fp w Bd (remD d s) m w' := by
  obtain ⟨a, b, c, hne, hD⟩ := h
  exact rem_any hD hne s hs
theorem crash_d (h : Dsk Fp w Bd d m) (hF : Up Fp w) (v : Value) (ks : List Int) (hk : KeepsAt Fp w v ks) (nm : Bool) :
    Calls Try.prog 23 #[.pointer (some ⟨Bd, 0, none⟩), v, .bool nm] w fun e w' => e = .returned (.tuple #[]) ∧ OpPost Fp w Bd (crashD d ks nm) m w' := by
  obtain ⟨a, b, c, hne, hD⟩ := h
  cases nm
  · exact crash_false hD hF v ks hk
  · exact crash_true hD hF v ks hk
/-- A crash whose numbers are a list that the text spells out. -/
theorem crash_lit (h : Dsk Fp w Bd d m) (hF : Up Fp w) (k : Int) (hk : k ≤ 9223372036854775807) (nm : Bool) :
    Calls Try.prog 23 #[.pointer (some ⟨Bd, 0, none⟩), .slice (some ⟨w.heap.size, 0, none⟩) 1 1, .bool nm] (w.alloc (.cells #[.int .i64 k] 3)) fun e w' => e = .returned (.tuple #[]) ∧ OpPost Fp w Bd (crashD d [k] nm) m w' := by
  obtain ⟨a, b, c, hne, hD⟩ := h
  have hD1 := (hD.nar (w.heap.size + 1)).alloc (.cells #[.int .i64 k] 3)
  have hup : ∀ j, w.heap.size ≤ j → Fp j := hF
  have hK : KeepsAt (nar Fp w.heap.size (w.heap.size + 1)) (w.alloc (.cells #[.int .i64 k] 3)) (.slice (some ⟨w.heap.size, 0, none⟩) 1 1) [k] := by
    refine ⟨_, _, rfl, by simp, by simpa using hk, ?_⟩
    intro i hi
    obtain rfl : i = 0 := by simpa using hi
    refine ⟨_, rfl, ?_, ?_⟩
    · rintro (h | h)
      · exact absurd h.2 (Nat.lt_irrefl _)
      · exact absurd h (Nat.not_succ_le_self _)
    · simp [go_sem, Addr.add]
  refine (crash_d ⟨a, b, c, hne, hD1⟩ (nar_up (by simp)) _ [k] hK nm).mono ?_
  rintro e w' ⟨rfl, ⟨a', b', c', hne', hD'⟩, hO⟩
  refine ⟨rfl, ⟨a', b', c', hne', hD'.wider (fun j _ hj => nar_of hup (Nat.le_succ _) hj)⟩, ?_⟩
  exact ((Oth.refl Fp w).alloc _).trans (hO.wide hup (Nat.le_succ _))
theorem new_d (w : World) (hF : Up Fp w) (q : Int) (hq : q ≤ 9223372036854775807) (m : Nat) (hm : m ≤ 100000) :
    Calls Try.prog 10 #[.int .i64 q] w fun e w' => e = .returned (.pointer (some ⟨w.heap.size + 2, 0, none⟩)) ∧ OpPost Fp w (w.heap.size + 2) (newDS q) m w' :=
  (new_any w hF q hq m hm).mono (fun e w' ⟨h1, h2, h3⟩ => ⟨h1, h2, Oth.of_below h3⟩)
/-- The disk's blocks are those from B on. -/
def Fb (B : Nat) : Nat → Prop := fun j => B ≤ j
theorem Fb_up {B : Nat} (h : B ≤ w.heap.size) : Up (Fb B) w := fun _ hk => Nat.le_trans h hk
theorem Oth.fb {B : Nat} {w' : World} (h : Oth (Fb B) w w') (hB : B ≤ w.heap.size) : Below B w w' := h.below (fun _ hk => hk) hB
end Go.Proofs.Ytaoifbdojleenaa
