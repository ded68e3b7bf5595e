/-
  THE DISK's CONTRACTS as the statements use them: a disk (Dsk) in, a disk out.
-/
import Derived.Test.YtjlkdglbnfifeaaGreatDoorDkWA
namespace Go.Proofs.YtjlkdglbnfifeaaGreatDoor
open Go.RowKit Go.Maps

variable {Fp : Nat → Prop} {w : World} {Bd : Nat} {d : DS} {m : Nat}
theorem Dsk.below {w' : World} (h : Dsk Fp w Bd d m) (hb : Below w.heap.size w w') : Dsk Fp w' Bd d m := by
  obtain ⟨a, b, c, hne, hD⟩ := h
  exact ⟨a, b, c, hne, hD.below hb⟩
theorem Dsk.wider (h : Dsk Fp w Bd d m) {Fq : Nat → Prop} (hq : ∀ j, j < w.heap.size → Fp j → Fq j) : Dsk Fq w Bd d m := by
  obtain ⟨a, b, c, hne, hD⟩ := h
  exact ⟨a, b, c, hne, hD.wider hq⟩
theorem Dsk.more (h : Dsk Fp w Bd d m) {k : Nat} (hk : m ≤ k) (hk2 : k ≤ 100000) : Dsk Fp w Bd d k := by
  obtain ⟨a, b, c, hne, hD⟩ := h
  exact ⟨a, b, c, hne, hD.more hk hk2⟩
theorem Dsk.lt (h : Dsk Fp w Bd d m) : Bd < w.heap.size := by
  obtain ⟨a, b, c, hne, hD⟩ := h
  exact hD.ltB
theorem append_d (h : Dsk Fp w Bd d m) (hF : Up Fp w) (s t : ByteArray) (hs : s.size ≤ 9223372036854775807) (ht : t.size ≤ 100000000) (hm : 100 ≤ m) :
    Calls Tryz.prog 19 #[.pointer (some ⟨Bd, 0, none⟩), .string s, .string t] w fun e w' => e = .returned (.int .i64 (appE d s t)) ∧ ∃ b, ¬ d.Has b ∧ OpPost Fp w Bd (appD d s t b) m w' := by
  obtain ⟨a, b, c, hne, hD⟩ := h
  exact append_any hD hne hF s hs t ht hm
theorem sync_d (h : Dsk Fp w Bd d m) (s : ByteArray) (hs : s.size ≤ 9223372036854775807) :
    Calls Tryz.prog 21 #[.pointer (some ⟨Bd, 0, none⟩), .string s] w fun e w' => e = .returned (.int .i64 (synE d s)) ∧ OpPost Fp w Bd (synD d s) m w' := by
  obtain ⟨a, b, c, hne, hD⟩ := h
  exact sync_any hD hne s hs
theorem sdir_d (h : Dsk Fp w Bd d m) (hF : Up Fp w) :
    Calls Tryz.prog 23 #[.pointer (some ⟨Bd, 0, none⟩)] w fun e w' => e = .returned (.int .i64 (sdE d)) ∧ OpPost Fp w Bd (sdD d) m w' := by
  obtain ⟨a, b, c, hne, hD⟩ := h
  exact sdir_any hD hne hF
theorem read_d (h : Dsk Fp w Bd d m) (s : ByteArray) (hs : s.size ≤ 9223372036854775807) (x n : Int) (hx : x ≤ 9223372036854775807) (hn : n ≤ 9223372036854775807) :
    Calls Tryz.prog 28 #[.pointer (some ⟨Bd, 0, none⟩), .string s, .int .i64 x, .int .i64 n] w fun e w' => e = .returned (.tuple #[.string (readS d s x n), .int .i64 (readE d s x n)]) ∧ Below w.heap.size w w' := by
  obtain ⟨a, b, c, hne, hD⟩ := h
  exact read_any hD s hs x n hx hn
theorem used_d (h : Dsk Fp w Bd d m) : Calls Tryz.prog 73 #[.pointer (some ⟨Bd, 0, none⟩)] w fun e w' => e = .returned (.int .i64 (usedD d)) ∧ Below w.heap.size w w' := by
  obtain ⟨a, b, c, hne, hD⟩ := h
  exact used_any hD
theorem quota_d (h : Dsk Fp w Bd d m) (q : Int) (hq : q ≤ 9223372036854775807) :
    Calls Tryz.prog 16 #[.pointer (some ⟨Bd, 0, none⟩), .int .i64 q] w fun e w' => e = .returned (.tuple #[]) ∧ OpPost Fp w Bd (qDS d q) m w' := by
  obtain ⟨a, b, c, hne, hD⟩ := h
  exact (quota_any hD q hq).mono (fun e w' ⟨h1, h2, h3⟩ => ⟨h1, ⟨_, _, _, hne, h2⟩, h3⟩)
theorem size_d (h : Dsk Fp w Bd d m) (s : ByteArray) (hs : s.size ≤ 9223372036854775807) :
    Calls Tryz.prog 27 #[.pointer (some ⟨Bd, 0, none⟩), .string s] w fun e w' => e = .returned (.tuple #[.int .i64 (sizeR d s.data.toList), .int .i64 (findE d s.data.toList)]) ∧ w' = w := by
  obtain ⟨a, b, c, hne, hD⟩ := h
  exact size_any hD s hs
theorem ren_d (h : Dsk Fp w Bd d m) (s t : ByteArray) (hs : s.size ≤ 9223372036854775807) (ht : t.size ≤ 9223372036854775807) :
    Calls Tryz.prog 22 #[.pointer (some ⟨Bd, 0, none⟩), .string s, .string t] w fun e w' => e = .returned (.int .i64 (renE d s t)) ∧ OpPost Fp w Bd (renD d s t) m w' := by
  obtain ⟨a, b, c, hne, hD⟩ := h
  exact ren_any hD hne s hs t ht
theorem rem_d (h : Dsk Fp w Bd d m) (s : ByteArray) (hs : s.size ≤ 9223372036854775807) :
    Calls Tryz.prog 38 #[.pointer (some ⟨Bd, 0, none⟩), .string s] w fun e w' => e = .returned (.int .i64 (remE d s)) ∧ OpPost Fp w Bd (remD d s) m w' := by
  obtain ⟨a, b, c, hne, hD⟩ := h
  exact rem_any hD hne s hs
theorem new_d (w : World) (hF : Up Fp w) (q : Int) (hq : q ≤ 9223372036854775807) (m : Nat) (hm : m ≤ 100000) :
    Calls Tryz.prog 5 #[.int .i64 q] w fun e w' => e = .returned (.pointer (some ⟨w.heap.size + 2, 0, none⟩)) ∧ OpPost Fp w (w.heap.size + 2) (newDS q) m w' :=
  (dnew_any w hF q hq m hm).mono (fun _ _ ⟨h1, h2, h3⟩ => ⟨h1, h2, Oth.of_below h3⟩)
/-- The disk's blocks are those from B on. -/
def Fb (B : Nat) : Nat → Prop := fun j => B ≤ j
theorem Fb_up {B : Nat} (h : B ≤ w.heap.size) : Up (Fb B) w := fun _ hk => Nat.le_trans h hk
theorem Oth.fb {B : Nat} {w' : World} (h : Oth (Fb B) w w') (hB : B ≤ w.heap.size) : Below B w w' := h.below (fun _ hk => hk) hB
end Go.Proofs.YtjlkdglbnfifeaaGreatDoor
