/-
  CONTRACTS of layer 16 (input): isBlank, cut where one byte parts, Split there, checkNumber.
-/
import Derived.Test.YtllbnbnpcogckaaGreatDoorCellW2
import Derived.WalkSpells
import Derived.WalkLawsBesides
import Derived.WalkMore
import Derived.ScopeJumps
import Derived.IntWalk
import Derived.RegionTactic
import Derived.ChangeAlike
import Derived.Deep.RegionLaw
import Derived.Deep.RegionHeld3
import Derived.Lib.MinMax
import Derived.Lib.Hide
import Derived.Lib.AppendStr
import Derived.Lib.BufferRead
import Derived.Laws.AppendOwn
import Derived.Laws.MakeOwn
import Derived.Laws.CopyRow
import Derived.Maps.AppendAt
import Derived.Below
namespace Go.Proofs.YtllbnbnpcogckaaGreatDoor
open Go.RowKit

/-- The library's tables and its one variable that a search asks. -/
structure Gi (w : World) : Prop where
  gl : Gl w
  mx : ∃ m, w.cell? ⟨0, 0, none⟩ = some (.int .i64 m)
theorem cell_lt {w : World} {p : Addr} {v : Value} (h : w.cell? p = some v) : p.block < w.heap.size := by
  cases h2 : w.heap[p.block]? with
  | none => simp [World.cell?, h2] at h
  | some o => exact (Array.getElem?_eq_some_iff.1 h2).1
theorem Gi.next {w w1 : World} (h : Gi w) (hb : Below w.heap.size w w1) : Gi w1 := by
  obtain ⟨m, hm⟩ := h.mx
  exact ⟨h.gl.next hb, m, (hb.cell (p := ⟨0, 0, none⟩) (cell_lt hm)).trans hm⟩
theorem below_drewN (w : World) (n : Nat) : Below w.heap.size w (w.drewN n) := ⟨rfl, rfl, rfl, Nat.le_refl _, fun _ _ => rfl⟩
theorem ba_sz (s : ByteArray) : s.data.toList.length = s.size := by simp
def isB (x : Nat) : Bool := x == 32 || x == 9 || x == 10
theorem blank_any (x : Nat) (w : World) : Calls Tryz.prog 38 #[.int .i32 (x : Int)] w fun e w' => e = .returned (.bool (isB x)) ∧ ∃ q, w' = w.drewN q := by
  rcases (show x = 32 ∨ x = 9 ∨ x = 10 ∨ (¬ x = 32 ∧ ¬ x = 9 ∧ ¬ x = 10) by omega) with rfl | rfl | rfl | ⟨h1, h2, h3⟩
  · go_enter Tryz.func38, Tryz.ntmps38
    go_wp2
    go_ret
    exact ⟨rfl, 0, rfl⟩
  · go_enter Tryz.func38, Tryz.ntmps38
    go_wp2
    go_ret
    exact ⟨rfl, 0, rfl⟩
  · go_enter Tryz.func38, Tryz.ntmps38
    go_wp2
    go_ret
    exact ⟨rfl, 0, rfl⟩
  · have e : isB x = false := by simp [isB, h1, h2, h3]
    have h1i : ¬ (x : Int) = 32 := by omega
    have h2i : ¬ (x : Int) = 9 := by omega
    have h3i : ¬ (x : Int) = 10 := by omega
    rw [e]
    clear e h1 h2 h3
    go_enter Tryz.func38, Tryz.ntmps38
    go_wp2
    go_ret
    exact ⟨by simp [h1i, h2i, h3i], 0, rfl⟩
/-- The fields of a text where one byte parts them. -/
def fieldsB (s sep : ByteArray) : List ByteArray :=
  if s.toList = [] then [] else if sep.toList = [32] then Lib.goFieldsP isB s else Lib.splitB sep 0 (Lib.countB s sep) s
theorem own_made {w : World} {e : TypeId} (l : List Value) : (w.alloc (.cells l.toArray e)).ownsRow w.heap.size e 1 (.slice (some ⟨w.heap.size, 0, none⟩) l.length l.length) l.length l ∨ ¬ l.length ≤ maxLen := by
  by_cases h : l.length ≤ maxLen
  · left
    refine ⟨by simp, .inr ⟨w.heap.size, l.length, l.toArray, rfl, Nat.le_refl _, ?_, Nat.le_refl _, h, by simp, by simp⟩⟩
    show (w.heap.push _)[w.heap.size]? = _
    exact Array.getElem?_push_size
  · exact .inr h
def CtPost (l : List ByteArray) (w : World) (e : Ending) (w' : World) : Prop :=
  ∃ v, e = .returned (.tuple #[v, .int .i64 0]) ∧ w'.ownsRow w.heap.size 9 1 v l.length (l.map Value.string) ∧ Below w.heap.size w w'
set_option maxHeartbeats 1000000 in
theorem icut_any (s sep : ByteArray) (w : World) (hs : s.size ≤ 4000) (hsep : sep.size = 1) (G : Gi w) :
    Calls Tryz.prog 25 #[.string s, .string sep, .bool false] w (CtPost (fieldsB s sep) w) := by
  have hse : sep.toList.isEmpty = false := by
    rw [Bool.eq_false_iff, ne_eq, List.isEmpty_iff]
    intro h
    have h2 := ba_sz sep
    rw [← toList_data', h] at h2
    simp at h2; omega
  have hsi : (sep.size : Int) = 1 := by omega
  by_cases h0 : s.toList = []
  · have h0' : s.toList.isEmpty = true := by rw [h0]; rfl
    have e : fieldsB s sep = [] := by unfold fieldsB; rw [if_pos h0]
    rw [e]
    clear e h0
    go_enter Tryz.func25, Tryz.ntmps25
    go_wp2
    go_ret2
    exact ⟨_, rfl, World.ownsRow_nil w _ _ _, Below.refl _ _⟩
  · have h0' : s.toList.isEmpty = false := by rw [Bool.eq_false_iff, ne_eq, List.isEmpty_iff]; exact h0
    by_cases h32 : sep.toList = [32]
    · have e : fieldsB s sep = Lib.goFieldsP isB s := by unfold fieldsB; rw [if_neg h0, if_pos h32]
      have h32' : (sep.toList == [32]) = true := by rw [h32]; rfl
      rw [e]
      have C := Lib.hid fun W => Tryz.strings_FieldsFunc 38 #[] (fun _ _ => enters_of Tryz.func38 (by kernel_rfl) rfl _ _) isB s W (by omega) (fun W x _ => blank_any x W)
      clear e h0 h32
      generalize Lib.goFieldsP isB s = l at *
      go_enter Tryz.func25, Tryz.ntmps25
      go_wp2_with fail
      refine (C.out _).mono ?_
      rintro e w1 ⟨A, rfl, -, ho, hb⟩
      have HO := Lib.hid (And.intro ho hb)
      clear ho hb
      go_wp2_with fail
      go_ret2
      exact ⟨_, rfl, HO.out.1, HO.out.2⟩
    · have e : fieldsB s sep = Lib.splitB sep 0 (Lib.countB s sep) s := by unfold fieldsB; rw [if_neg h0, if_neg h32]
      have h32' : (sep.toList == [32]) = false := by simpa using h32
      rw [e]
      obtain ⟨m, hm⟩ := G.mx
      have C := Lib.hid (Tryz.strings_Split s sep m w (by omega) hm (by omega))
      have hl : (Lib.splitB sep 0 (Lib.countB s sep) s).length = Lib.countB s sep + 1 := Lib.splitB_all sep (by omega) 0 _ s rfl
      have hc := Lib.countB_le sep (by omega) s.size s (Nat.le_refl _)
      clear e h0 h32 G hm
      generalize Lib.splitB sep 0 (Lib.countB s sep) s = l at *
      rw [← hl] at C
      go_enter Tryz.func25, Tryz.ntmps25
      go_wp2_with fail
      refine C.out.mono ?_
      rintro e w1 ⟨rfl, rfl⟩
      go_wp2_with fail
      go_ret2
      refine ⟨_, rfl, ?_, (Below.refl _ _).alloc (Nat.le_refl _) _⟩
      rcases own_made (w := w) (e := 9) (l.map Value.string) with h | h
      · rw [← hl]; simpa using h
      · exfalso; apply h; rw [List.length_map]; unfold maxLen; omega
theorem num_any (n : Int) (w : World) : Calls Tryz.prog 27 #[.int .i64 n] w fun e w' => e = .returned (.int .i64 (if n < 0 then 16 else if n > 500 then 15 else 0)) ∧ w = w' := by
  by_cases h1 : n < 0
  · rw [if_pos h1]
    go_enter Tryz.func27, Tryz.ntmps27
    go_wp2
    go_ret
    exact ⟨rfl, rfl⟩
  · rw [if_neg h1]
    by_cases h2 : n > 500
    · rw [if_pos h2]
      go_enter Tryz.func27, Tryz.ntmps27
      go_wp2
      go_ret
      exact ⟨rfl, rfl⟩
    · rw [if_neg h2]
      go_enter Tryz.func27, Tryz.ntmps27
      go_wp2
      go_ret
      exact ⟨rfl, rfl⟩
end Go.Proofs.YtllbnbnpcogckaaGreatDoor
