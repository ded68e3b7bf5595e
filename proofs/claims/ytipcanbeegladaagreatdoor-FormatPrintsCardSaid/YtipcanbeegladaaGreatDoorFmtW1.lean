/-
  CONTRACTS of layer 7's reading of a conversion (readFlags, readNumber): what each hands back, what it writes.
-/
import Derived.Test.YtipcanbeegladaaGreatDoorFmtM
import Derived.Test.YtipcanbeegladaaGreatDoorNumW2
import Derived.IntWalk
import Derived.WalkMore
import Derived.ScopeJumps
namespace Go.Proofs.YtipcanbeegladaaGreatDoor
open Go.RowKit

/-- Of what lay in memory block b alone has turned. -/
structure Only (b : Nat) (w w' : World) : Prop where
  os : w'.os = w.os
  tape : w'.tape = w.tape
  output : w'.output = w.output
  size : w.heap.size ≤ w'.heap.size
  block : ∀ k, k < w.heap.size → k ≠ b → w'.heap[k]? = w.heap[k]?
theorem Only.refl (b : Nat) (w : World) : Only b w w := ⟨rfl, rfl, rfl, Nat.le_refl _, fun _ _ _ => rfl⟩
theorem Only.trans {b : Nat} {u v w : World} (h : Only b u v) (k : Only b v w) : Only b u w :=
  ⟨k.os.trans h.os, k.tape.trans h.tape, k.output.trans h.output, Nat.le_trans h.size k.size, fun i hi hne => (k.block i (Nat.lt_of_lt_of_le hi h.size) hne).trans (h.block i hi hne)⟩
theorem Only.drew {b : Nat} {u w : World} (h : Only b u w) : Only b u w.drew := ⟨h.os, h.tape, h.output, h.size, h.block⟩
theorem Only.drewN {b n : Nat} {u w : World} (h : Only b u w) : Only b u (w.drewN n) := ⟨h.os, h.tape, h.output, h.size, h.block⟩
theorem Only.setCell {b : Nat} {u w : World} (h : Only b u w) (o : Nat) (v : Value) : Only b u (w.setCell ⟨b, o, none⟩ v) := by
  refine h.trans ⟨rfl, rfl, rfl, Nat.le_of_eq (World.size_setCell _ _ _).symm, fun k _ hne => Below.heap_setCell w _ v k hne⟩
theorem Only.below {b B : Nat} {w w' : World} (h : Only b w w') (hb : B ≤ b) (hB : B ≤ w.heap.size) : Below B w w' :=
  ⟨h.os, h.tape, h.output, h.size, fun k hk => h.block k (Nat.lt_of_lt_of_le hk hB) (by omega)⟩

/-- A conversion lies in block b. -/
structure CvAt (w : World) (b : Nat) (l z p bl : Bool) (wd pr : Int) (pc : Bool) (k : Int) : Prop where
  c0 : w.cell? ⟨b, 0, none⟩ = some (.bool l)
  c1 : w.cell? ⟨b, 1, none⟩ = some (.bool z)
  c2 : w.cell? ⟨b, 2, none⟩ = some (.bool p)
  c3 : w.cell? ⟨b, 3, none⟩ = some (.bool bl)
  c4 : w.cell? ⟨b, 4, none⟩ = some (.int .i64 wd)
  c5 : w.cell? ⟨b, 5, none⟩ = some (.int .i64 pr)
  c6 : w.cell? ⟨b, 6, none⟩ = some (.bool pc)
  c7 : w.cell? ⟨b, 7, none⟩ = some (.int .u8 k)
  f0 : w.frozen? ⟨b, 0, none⟩ = false
  f1 : w.frozen? ⟨b, 1, none⟩ = false
  f2 : w.frozen? ⟨b, 2, none⟩ = false
  f3 : w.frozen? ⟨b, 3, none⟩ = false
  f4 : w.frozen? ⟨b, 4, none⟩ = false
  f5 : w.frozen? ⟨b, 5, none⟩ = false
  f6 : w.frozen? ⟨b, 6, none⟩ = false
  f7 : w.frozen? ⟨b, 7, none⟩ = false
theorem CvAt.drewN {w : World} {b n : Nat} {l z p bl : Bool} {wd pr : Int} {pc : Bool} {k : Int} (h : CvAt w b l z p bl wd pr pc k) : CvAt (w.drewN n) b l z p bl wd pr pc k := by
  obtain ⟨c0, c1, c2, c3, c4, c5, c6, c7, f0, f1, f2, f3, f4, f5, f6, f7⟩ := h
  exact ⟨c0, c1, c2, c3, c4, c5, c6, c7, f0, f1, f2, f3, f4, f5, f6, f7⟩
theorem CvAt.lt {w : World} {b : Nat} {l z p bl : Bool} {wd pr : Int} {pc : Bool} {k : Int} (h : CvAt w b l z p bl wd pr pc k) : b < w.heap.size := World.block_lt_of_cell? _ _ h.c0
theorem CvAt.below {w w1 : World} {b B : Nat} {l z p bl : Bool} {wd pr : Int} {pc : Bool} {k : Int} (h : CvAt w b l z p bl wd pr pc k) (hB : Below B w w1) (hb : b < B) : CvAt w1 b l z p bl wd pr pc k := by
  have hc : ∀ o, w1.cell? ⟨b, o, none⟩ = w.cell? ⟨b, o, none⟩ := fun o => hB.cell (p := ⟨b, o, none⟩) hb
  have hf : ∀ o, w1.frozen? ⟨b, o, none⟩ = w.frozen? ⟨b, o, none⟩ := fun o => hB.frozen (p := ⟨b, o, none⟩) hb
  obtain ⟨c0, c1, c2, c3, c4, c5, c6, c7, f0, f1, f2, f3, f4, f5, f6, f7⟩ := h
  constructor <;> (first | rw [hc] | rw [hf]) <;> assumption
theorem CvAt.set0 {w : World} {b : Nat} {l z p bl : Bool} {wd pr : Int} {pc : Bool} {k : Int} (h : CvAt w b l z p bl wd pr pc k) (v : Bool) : CvAt (w.setCell ⟨b, 0, none⟩ (.bool v)) b v z p bl wd pr pc k := by
  obtain ⟨c0, c1, c2, c3, c4, c5, c6, c7, f0, f1, f2, f3, f4, f5, f6, f7⟩ := h
  constructor <;> first | (rw [World.cell?_setCell_other _ _ _ _ (by simp)]; assumption) | exact World.cell?_setCell_same _ _ _ (by assumption) | simpa
theorem CvAt.set1 {w : World} {b : Nat} {l z p bl : Bool} {wd pr : Int} {pc : Bool} {k : Int} (h : CvAt w b l z p bl wd pr pc k) (v : Bool) : CvAt (w.setCell ⟨b, 1, none⟩ (.bool v)) b l v p bl wd pr pc k := by
  obtain ⟨c0, c1, c2, c3, c4, c5, c6, c7, f0, f1, f2, f3, f4, f5, f6, f7⟩ := h
  constructor <;> first | (rw [World.cell?_setCell_other _ _ _ _ (by simp)]; assumption) | exact World.cell?_setCell_same _ _ _ c1 | simpa
theorem CvAt.set2 {w : World} {b : Nat} {l z p bl : Bool} {wd pr : Int} {pc : Bool} {k : Int} (h : CvAt w b l z p bl wd pr pc k) (v : Bool) : CvAt (w.setCell ⟨b, 2, none⟩ (.bool v)) b l z v bl wd pr pc k := by
  obtain ⟨c0, c1, c2, c3, c4, c5, c6, c7, f0, f1, f2, f3, f4, f5, f6, f7⟩ := h
  constructor <;> first | (rw [World.cell?_setCell_other _ _ _ _ (by simp)]; assumption) | exact World.cell?_setCell_same _ _ _ c2 | simpa
theorem CvAt.set3 {w : World} {b : Nat} {l z p bl : Bool} {wd pr : Int} {pc : Bool} {k : Int} (h : CvAt w b l z p bl wd pr pc k) (v : Bool) : CvAt (w.setCell ⟨b, 3, none⟩ (.bool v)) b l z p v wd pr pc k := by
  obtain ⟨c0, c1, c2, c3, c4, c5, c6, c7, f0, f1, f2, f3, f4, f5, f6, f7⟩ := h
  constructor <;> first | (rw [World.cell?_setCell_other _ _ _ _ (by simp)]; assumption) | exact World.cell?_setCell_same _ _ _ c3 | simpa
theorem CvAt.set4 {w : World} {b : Nat} {l z p bl : Bool} {wd pr : Int} {pc : Bool} {k : Int} (h : CvAt w b l z p bl wd pr pc k) (v : Int) : CvAt (w.setCell ⟨b, 4, none⟩ (.int .i64 v)) b l z p bl v pr pc k := by
  obtain ⟨c0, c1, c2, c3, c4, c5, c6, c7, f0, f1, f2, f3, f4, f5, f6, f7⟩ := h
  constructor <;> first | (rw [World.cell?_setCell_other _ _ _ _ (by simp)]; assumption) | exact World.cell?_setCell_same _ _ _ c4 | simpa
theorem CvAt.set5 {w : World} {b : Nat} {l z p bl : Bool} {wd pr : Int} {pc : Bool} {k : Int} (h : CvAt w b l z p bl wd pr pc k) (v : Int) : CvAt (w.setCell ⟨b, 5, none⟩ (.int .i64 v)) b l z p bl wd v pc k := by
  obtain ⟨c0, c1, c2, c3, c4, c5, c6, c7, f0, f1, f2, f3, f4, f5, f6, f7⟩ := h
  constructor <;> first | (rw [World.cell?_setCell_other _ _ _ _ (by simp)]; assumption) | exact World.cell?_setCell_same _ _ _ c5 | simpa
theorem CvAt.set6 {w : World} {b : Nat} {l z p bl : Bool} {wd pr : Int} {pc : Bool} {k : Int} (h : CvAt w b l z p bl wd pr pc k) (v : Bool) : CvAt (w.setCell ⟨b, 6, none⟩ (.bool v)) b l z p bl wd pr v k := by
  obtain ⟨c0, c1, c2, c3, c4, c5, c6, c7, f0, f1, f2, f3, f4, f5, f6, f7⟩ := h
  constructor <;> first | (rw [World.cell?_setCell_other _ _ _ _ (by simp)]; assumption) | exact World.cell?_setCell_same _ _ _ c6 | simpa
theorem CvAt.set7 {w : World} {b : Nat} {l z p bl : Bool} {wd pr : Int} {pc : Bool} {k : Int} (h : CvAt w b l z p bl wd pr pc k) (v : Int) : CvAt (w.setCell ⟨b, 7, none⟩ (.int .u8 v)) b l z p bl wd pr pc v := by
  obtain ⟨c0, c1, c2, c3, c4, c5, c6, c7, f0, f1, f2, f3, f4, f5, f6, f7⟩ := h
  constructor <;> first | (rw [World.cell?_setCell_other _ _ _ _ (by simp)]; assumption) | exact World.cell?_setCell_same _ _ _ c7 | simpa

/-! Of a text that is gone through as long as its bytes are of a kind. -/
theorem go_on {p : UInt8 → Bool} (s : ByteArray) (k : Nat) (hx : ∀ c ∈ s.data.toList.take k, p c = true) (hst : ∀ h : k < s.size, p s[k] = false) :
    s.data.toList.takeWhile p = s.data.toList.take k ∧ s.data.toList.dropWhile p = s.data.toList.drop k := by
  have e : s.data.toList = s.data.toList.take k ++ s.data.toList.drop k := (List.take_append_drop _ _).symm
  have hy : ∀ c, (s.data.toList.drop k).head? = some c → p c = false := by
    intro c hc
    rw [List.head?_drop] at hc
    by_cases hks : k < s.size
    · rw [at_list s k hks] at hc
      rw [← Option.some.inj hc]; exact hst hks
    · rw [List.getElem?_eq_none (by simp; omega)] at hc; cases hc
  constructor
  · conv => lhs; rw [e]
    rw [takeWhile_all hx hy]
  · conv => lhs; rw [e]
    rw [dropWhile_all hx hy]
theorem take_snoc (s : ByteArray) (k : Nat) (h : k < s.size) : s.data.toList.take (k + 1) = s.data.toList.take k ++ [s[k]] := by
  rw [List.take_succ_eq_append_getElem (by simpa using h)]; rfl
theorem all_snoc {p : UInt8 → Bool} (s : ByteArray) (k : Nat) (h : k < s.size) (hx : ∀ c ∈ s.data.toList.take k, p c = true) (hp : p s[k] = true) : ∀ c ∈ s.data.toList.take (k + 1), p c = true := by
  rw [take_snoc s k h]
  intro c hc
  rcases List.mem_append.1 hc with hc | hc
  · exact hx c hc
  · rw [List.mem_singleton.1 hc]; exact hp
def seen (s : ByteArray) (j : Nat) (c : UInt8) : Bool := (s.data.toList.take j).contains c
theorem seen_snoc (s : ByteArray) (k : Nat) (h : k < s.size) (c : UInt8) : seen s (k + 1) c = (seen s k c || (c == s[k])) := by
  unfold seen; rw [take_snoc s k h, List.contains_eq_mem, List.contains_eq_mem]
  rw [Bool.eq_iff_iff]; simp
theorem u8_of {c d : UInt8} (h : (c.toNat : Int) = (d.toNat : Int)) : c = d := by
  apply UInt8.toNat_inj.1; omega
theorem u8_ne {c d : UInt8} (h : ¬ (c.toNat : Int) = (d.toNat : Int)) : (d == c) = false := by
  rw [beq_eq_false_iff_ne]; rintro rfl; exact h rfl
/-- What the flags' loop has seen. -/
def FlR (b : Nat) (s : ByteArray) (wd pr : Int) (pc : Bool) (kd : Int) (w : World) (k : Nat) (wr : World) : Prop :=
  (∀ c ∈ s.data.toList.take k, isF c = true) ∧ CvAt wr b (seen s k 45) (seen s k 48) (seen s k 43) (seen s k 32) wd pr pc kd ∧ Only b w wr
def FlPost (b : Nat) (s R : ByteArray) (wd pr : Int) (pc : Bool) (kd : Int) (w : World) (e : Ending) (w' : World) : Prop :=
  e = .returned (.string R) ∧ CvAt w' b (hasF s.data.toList 45) (hasF s.data.toList 48) (hasF s.data.toList 43) (hasF s.data.toList 32) wd pr pc kd ∧ Only b w w'
theorem fl_end {b : Nat} {s R : ByteArray} {wd pr : Int} {pc : Bool} {kd : Int} {w wr : World} {k : Nat} (hR : R.data.toList = restF s.data.toList) (h : FlR b s wd pr pc kd w k wr) (hst : ∀ h : k < s.size, isF s[k] = false) :
    FlPost b s R wd pr pc kd w (.returned (.string (s.extract k s.size))) wr := by
  obtain ⟨h1, h2, h3⟩ := h
  obtain ⟨e1, e2⟩ := go_on s k h1 hst
  refine ⟨?_, ?_, h3⟩
  · rw [show s.extract k s.size = R from WideShapes.bytes_inj (by rw [extk, hR]; unfold restF; exact e2.symm)]
  · unfold hasF; rw [e1]; exact h2
theorem isF_no {c : UInt8} (h1 : ¬ (c.toNat : Int) = 45) (h2 : ¬ (c.toNat : Int) = 48) (h3 : ¬ (c.toNat : Int) = 43) (h4 : ¬ (c.toNat : Int) = 32) : isF c = false := by
  rw [Bool.eq_false_iff]; intro h
  unfold isF at h
  have : c = 45 ∨ c = 48 ∨ c = 43 ∨ c = 32 := by simpa using h
  rcases this with rfl | rfl | rfl | rfl
  · exact h1 rfl
  · exact h2 rfl
  · exact h3 rfl
  · exact h4 rfl
set_option maxHeartbeats 2000000 in
theorem flags_any (b : Nat) (s R : ByteArray) (wd pr : Int) (pc : Bool) (kd : Int) (w : World) (h : CvAt w b false false false false wd pr pc kd) (hs : s.size ≤ 4000000000) (hR : R.data.toList = restF s.data.toList) :
    Calls Tryz.prog 21 #[.pointer (some ⟨b, 0, none⟩), .string s] w (FlPost b s R wd pr pc kd w) := by
  have H0 : Hid (FlR b s wd pr pc kd w 0 w) := Lib.hid ⟨by simp, by simpa [seen] using h, Only.refl _ _⟩
  have HR := Lib.hid hR
  clear hR h
  go_enter Tryz.func21, Tryz.ntmps21
  go_wp2
  go_step3
  go_wp2
  go_step3
  go_wp2
  go_loopw [5] (fun iv wr => ∃ k : Nat, k ≤ s.size ∧ iv = .int .i64 k ∧ Hid (FlR b s wd pr pc kd w k wr)) (fun iv _ => s.size - (intOf iv).toNat)
  case atStart => exact ⟨0, Nat.zero_le _, rfl, H0⟩
  case round =>
    obtain ⟨k, hk, rfl, HK⟩ := hrel
    by_cases hlt : k < s.size
    · obtain ⟨a1, a2, a3⟩ := HK.out
      by_cases h1 : (s[k].toNat : Int) = 45
      · have hx : s[k] = 45 := u8_of h1
        have HN : Hid (FlR b s wd pr pc kd w (k + 1) (wr.setCell ⟨b, 0, none⟩ (.bool true))) := Lib.hid ⟨all_snoc s k hlt a1 (by rw [hx]; decide), by
          rw [seen_snoc s k hlt, seen_snoc s k hlt, seen_snoc s k hlt, seen_snoc s k hlt, hx]
          simpa using a2.set0 true, a3.setCell _ _⟩
        obtain ⟨c0, c1, c2, c3, c4, c5, c6, c7, f0, f1, f2, f3, f4, f5, f6, f7⟩ := a2
        clear HK a1 a3 hx
        go_wp2
        go_roundw
        case rel => exact ⟨k + 1, by omega, by go_num, HN⟩
        case measure => simp [intOf]; omega
      by_cases h2 : (s[k].toNat : Int) = 48
      · have hx : s[k] = 48 := u8_of h2
        have HN : Hid (FlR b s wd pr pc kd w (k + 1) (wr.setCell ⟨b, 1, none⟩ (.bool true))) := Lib.hid ⟨all_snoc s k hlt a1 (by rw [hx]; decide), by
          rw [seen_snoc s k hlt, seen_snoc s k hlt, seen_snoc s k hlt, seen_snoc s k hlt, hx]
          simpa using a2.set1 true, a3.setCell _ _⟩
        obtain ⟨c0, c1, c2, c3, c4, c5, c6, c7, f0, f1, f2, f3, f4, f5, f6, f7⟩ := a2
        clear HK a1 a3 hx
        go_wp2
        go_roundw
        case rel => exact ⟨k + 1, by omega, by go_num, HN⟩
        case measure => simp [intOf]; omega
      by_cases h3 : (s[k].toNat : Int) = 43
      · have hx : s[k] = 43 := u8_of h3
        have HN : Hid (FlR b s wd pr pc kd w (k + 1) (wr.setCell ⟨b, 2, none⟩ (.bool true))) := Lib.hid ⟨all_snoc s k hlt a1 (by rw [hx]; decide), by
          rw [seen_snoc s k hlt, seen_snoc s k hlt, seen_snoc s k hlt, seen_snoc s k hlt, hx]
          simpa using a2.set2 true, a3.setCell _ _⟩
        obtain ⟨c0, c1, c2, c3, c4, c5, c6, c7, f0, f1, f2, f3, f4, f5, f6, f7⟩ := a2
        clear HK a1 a3 hx
        go_wp2
        go_roundw
        case rel => exact ⟨k + 1, by omega, by go_num, HN⟩
        case measure => simp [intOf]; omega
      by_cases h4 : (s[k].toNat : Int) = 32
      · have hx : s[k] = 32 := u8_of h4
        have HN : Hid (FlR b s wd pr pc kd w (k + 1) (wr.setCell ⟨b, 3, none⟩ (.bool true))) := Lib.hid ⟨all_snoc s k hlt a1 (by rw [hx]; decide), by
          rw [seen_snoc s k hlt, seen_snoc s k hlt, seen_snoc s k hlt, seen_snoc s k hlt, hx]
          simpa using a2.set3 true, a3.setCell _ _⟩
        obtain ⟨c0, c1, c2, c3, c4, c5, c6, c7, f0, f1, f2, f3, f4, f5, f6, f7⟩ := a2
        clear HK a1 a3 hx
        go_wp2
        go_roundw
        case rel => exact ⟨k + 1, by omega, by go_num, HN⟩
        case measure => simp [intOf]; omega
      · have HE := Lib.hid (fl_end HR.out HK.out fun _ => isF_no h1 h2 h3 h4)
        clear HK a1 a2 a3
        go_wp2
        try rw [Exit.noGoto_ret]
        go_ret
        exact HE.out
    · have HE := Lib.hid (fl_end HR.out HK.out fun h => absurd h hlt)
      clear HK
      go_wp2
      try rw [Exit.noGoto_ret]
      go_ret
      exact HE.out

def NuPost (v : Nat) (R : ByteArray) (w : World) (e : Ending) (w' : World) : Prop := e = .returned (.tuple #[.int .i64 (v : Int), .string R]) ∧ Dr w w'
theorem nu_end {s R : ByteArray} {v k u n : Nat} {w : World} (hv : v = num1 (s.data.toList.takeWhile isD)) (hR : R.data.toList = s.data.toList.dropWhile isD) (hu : u = num1 (s.data.toList.take k)) (h1 : ∀ c ∈ s.data.toList.take k, isD c = true) (hst : ∀ h : k < s.size, isD s[k] = false) :
    NuPost v R w (.returned (.tuple #[.int .i64 (u : Int), .string (s.extract k s.size)])) (w.drewN n) := by
  obtain ⟨e1, e2⟩ := go_on s k h1 hst
  refine ⟨?_, n, rfl⟩
  rw [show s.extract k s.size = R from WideShapes.bytes_inj (by rw [extk, hR]; exact e2.symm), show u = v from by rw [hu, hv, e1]]
set_option maxHeartbeats 2000000 in
theorem number_any (s R : ByteArray) (v : Nat) (w : World) (hs : s.size ≤ 4000000000) (hv : v = num1 (s.data.toList.takeWhile isD)) (hR : R.data.toList = s.data.toList.dropWhile isD) :
    Calls Tryz.prog 22 #[.string s] w (NuPost v R w) := by
  have HV := Lib.hid hv
  have HR := Lib.hid hR
  clear hv hR
  go_enter Tryz.func22, Tryz.ntmps22
  go_wp2
  go_loop [4, 5] (fun n i => ∃ k u : Nat, k ≤ s.size ∧ u ≤ 1001 ∧ i = .int .i64 k ∧ n = .int .i64 u ∧ Hid (u = num1 (s.data.toList.take k)) ∧ Hid (∀ c ∈ s.data.toList.take k, isD c = true)) (fun _ i => s.size - (intOf i).toNat)
  case atStart => exact ⟨0, 0, Nat.zero_le _, by omega, rfl, rfl, Lib.hid (by simp [num1]), Lib.hid (by simp)⟩
  case round =>
    obtain ⟨k, u, hk, hu, rfl, rfl, HU, HA⟩ := hrel
    by_cases hlt : k < s.size
    · by_cases h1 : 48 ≤ (s[k].toNat : Int)
      · by_cases h2 : (s[k].toNat : Int) ≤ 57
        · have HA' := Lib.hid (all_snoc s k hlt HA.out (show isD s[k] = true from by unfold isD; exact decide_eq_true (by omega)))
          have HU' : Hid (min (u * 10 + (s[k].toNat - 48)) 1001 = num1 (s.data.toList.take (k + 1))) := Lib.hid (by rw [take_snoc s k hlt, num1_snoc, HU.out])
          clear HA HU
          go_wp2
          go_round
          case rel => exact ⟨k + 1, min (u * 10 + (s[k].toNat - 48)) 1001, by omega, by omega, by go_num, by first | rfl | (congr 1; omega), HU', HA'⟩
          case measure => simp [intOf]; omega
        · have HE := Lib.hid fun n => nu_end (n := n) (w := w) HV.out HR.out HU.out HA.out fun h => by unfold isD; exact decide_eq_false (by omega)
          go_wp2
          go_quiet (fail)
          go_wp2
          go_ret2
          exact HE.out _
      · have HE := Lib.hid fun n => nu_end (n := n) (w := w) HV.out HR.out HU.out HA.out fun h => by unfold isD; exact decide_eq_false (by omega)
        go_wp2
        go_quiet (fail)
        go_wp2
        go_ret2
        exact HE.out _
    · have HE := Lib.hid fun n => nu_end (n := n) (w := w) HV.out HR.out HU.out HA.out fun h => absurd h hlt
      go_wp2
      go_quiet (fail)
      go_wp2
      go_ret2
      exact HE.out _
end Go.Proofs.YtipcanbeegladaaGreatDoor
