/-
  CONTRACTS of the disk's calls that write little or nothing: Name, find, New, Quota, Arm, Dead, Size.
-/
import Derived.Test.YtjlkdglbnfifeaaGreatDoorDkW1
import Derived.Test.YtjlkdglbnfifeaaGreatDoorShelf
import Derived.IntWalk
import Derived.WalkMore
namespace Go.Proofs.YtjlkdglbnfifeaaGreatDoor
open Go.RowKit Go.Maps

def Dsk (Fp : Nat → Prop) (w : World) (Bd : Nat) (d : DS) (m : Nat) : Prop := ∃ mn ms vs, mn ≠ ms ∧ DV Fp w Bd mn ms vs d m

def nmC (c : Nat) : Bool := (decide (97 ≤ c) && decide (c ≤ 122)) || (decide (48 ≤ c) && decide (c ≤ 57)) || decide (c = 46) || decide (c = 95) || decide (c = 45)
set_option maxHeartbeats 1000000 in
theorem nmc_any (c : Nat) (hc : c < 256) (w : World) : Calls Tryz.prog 72 #[.int .u8 c] w fun e w' => e = .returned (.bool (nmC c)) ∧ w' = w := by
  by_cases h1 : 97 ≤ c
  · by_cases h2 : c ≤ 122
    · have hr : nmC c = true := by simp [nmC, h1, h2]
      rw [hr]
      have i1 : decide (97 ≤ (c : Int)) = true := by simp; omega
      have i2 : decide ((c : Int) ≤ 122) = true := by simp; omega
      clear hr
      go_enter Tryz.func72, Tryz.ntmps72
      go_wp2
      go_ret
      exact ⟨rfl, rfl⟩
    · have hr : nmC c = false := by simp [nmC]; omega
      rw [hr]
      have i1 : decide (97 ≤ (c : Int)) = true := by simp; omega
      have i2 : decide ((c : Int) ≤ 122) = false := by simp; omega
      have i3 : decide (48 ≤ (c : Int)) = true := by simp; omega
      have i4 : decide ((c : Int) ≤ 57) = false := by simp; omega
      have e1 : ((c : Int) == 46) = false := by simp; omega
      have e2 : ((c : Int) == 95) = false := by simp; omega
      have e3 : ((c : Int) == 45) = false := by simp; omega
      clear hr
      go_enter Tryz.func72, Tryz.ntmps72
      go_wp2
      go_ret
      exact ⟨rfl, rfl⟩
  · by_cases h3 : 48 ≤ c
    · by_cases h4 : c ≤ 57
      · have hr : nmC c = true := by simp [nmC, h3, h4]
        rw [hr]
        have i1 : decide (97 ≤ (c : Int)) = false := by simp; omega
        have i3 : decide (48 ≤ (c : Int)) = true := by simp; omega
        have i4 : decide ((c : Int) ≤ 57) = true := by simp; omega
        clear hr
        go_enter Tryz.func72, Tryz.ntmps72
        go_wp2
        go_ret
        exact ⟨rfl, rfl⟩
      · by_cases h5 : c = 95
        · subst h5
          have hr : nmC 95 = true := rfl
          rw [hr]
          clear hr
          go_enter Tryz.func72, Tryz.ntmps72
          go_wp2
          go_ret
          exact ⟨rfl, rfl⟩
        · have hr : nmC c = false := by simp [nmC]; omega
          rw [hr]
          have i1 : decide (97 ≤ (c : Int)) = false := by simp; omega
          have i3 : decide (48 ≤ (c : Int)) = true := by simp; omega
          have i4 : decide ((c : Int) ≤ 57) = false := by simp; omega
          have e1 : ((c : Int) == 46) = false := by simp; omega
          have e2 : ((c : Int) == 95) = false := by simp; omega
          have e3 : ((c : Int) == 45) = false := by simp; omega
          clear hr
          go_enter Tryz.func72, Tryz.ntmps72
          go_wp2
          go_ret
          exact ⟨rfl, rfl⟩
    · by_cases h5 : c = 46
      · subst h5
        have hr : nmC 46 = true := rfl
        rw [hr]
        clear hr
        go_enter Tryz.func72, Tryz.ntmps72
        go_wp2
        go_ret
        exact ⟨rfl, rfl⟩
      · by_cases h6 : c = 45
        · subst h6
          have hr : nmC 45 = true := rfl
          rw [hr]
          clear hr
          go_enter Tryz.func72, Tryz.ntmps72
          go_wp2
          go_ret
          exact ⟨rfl, rfl⟩
        · have hr : nmC c = false := by simp [nmC]; omega
          rw [hr]
          have i1 : decide (97 ≤ (c : Int)) = false := by simp; omega
          have i3 : decide (48 ≤ (c : Int)) = false := by simp; omega
          have e1 : ((c : Int) == 46) = false := by simp; omega
          have e2 : ((c : Int) == 95) = false := by simp; omega
          have e3 : ((c : Int) == 45) = false := by simp; omega
          clear hr
          go_enter Tryz.func72, Tryz.ntmps72
          go_wp2
          go_ret
          exact ⟨rfl, rfl⟩

def okN (s : ByteArray) : Bool := decide (1 ≤ s.size) && decide (s.size ≤ 40) && s.data.toList.all (fun c => nmC c.toNat)
theorem okN_len {s : ByteArray} (h : okN s = true) : 1 ≤ s.size ∧ s.size ≤ 40 := by
  simp only [okN, Bool.and_eq_true, decide_eq_true_eq] at h
  exact h.1
theorem all_bad (s : ByteArray) (k : Nat) (hk : k < s.size) (h : nmC s[k].toNat = false) : okN s = false := by
  rw [Bool.eq_false_iff]
  intro e
  simp only [okN, Bool.and_eq_true, List.all_eq_true] at e
  have := e.2 s[k] (by rw [show s[k] = s.data.toList[k]'(by simpa using hk) from rfl]; exact List.getElem_mem _)
  rw [h] at this
  cases this
theorem take_snocN (s : ByteArray) (k : Nat) (h : k < s.size) : s.data.toList.take (k + 1) = s.data.toList.take k ++ [s[k]] := by
  rw [List.take_succ_eq_append_getElem (by simpa using h)]; rfl
set_option maxHeartbeats 2000000 in
theorem name_any (s : ByteArray) (w : World) (hs : s.size ≤ 9223372036854775807) : Calls Tryz.prog 39 #[.string s] w fun e w' => e = .returned (.bool (okN s)) ∧ w' = w := by
  by_cases h0 : s.size = 0
  · have hr : okN s = false := by simp [okN, h0]
    rw [hr]
    clear hr
    obtain rfl : s = ⟨#[]⟩ := by
      apply WideShapes.bytes_inj
      exact List.eq_nil_of_length_eq_zero (by simpa using h0)
    clear hs h0
    go_enter Tryz.func39, Tryz.ntmps39
    go_wp2
    go_ret
    exact ⟨rfl, rfl⟩
  have hne : s.toList.isEmpty = false := by
    rw [List.isEmpty_eq_false_iff]
    intro e
    rw [ByteArray.toList_eq] at e
    exact h0 (by have := congrArg List.length e; simpa using this)
  by_cases h1 : 40 < s.size
  · have hr : okN s = false := by
      simp only [okN, show decide (s.size ≤ 40) = false by simpa using h1, Bool.and_false, Bool.false_and]
    rw [hr]
    clear hr
    go_enter Tryz.func39, Tryz.ntmps39
    go_wp2
    go_ret
    exact ⟨rfl, rfl⟩
  go_enter Tryz.func39, Tryz.ntmps39
  go_wp2
  go_loopw [13] (fun iv wr => ∃ k : Nat, k ≤ s.size ∧ iv = .int .i64 k ∧ wr = w ∧ Hid ((s.data.toList.take k).all (fun c => nmC c.toNat) = true)) (fun iv _ => s.size - (intOf iv).toNat)
  case atStart => exact ⟨0, Nat.zero_le _, rfl, rfl, Lib.hid rfl⟩
  case round =>
    obtain ⟨k, hk, rfl, rfl, HK⟩ := hrel
    by_cases hlt : k < s.size
    · have hc : s[k].toNat < 256 := s[k].toNat_lt
      have C := nmc_any s[k].toNat hc wr
      cases hb : nmC s[k].toNat with
      | true =>
        rw [hb] at C
        have HN : Hid ((s.data.toList.take (k + 1)).all (fun c => nmC c.toNat) = true) := Lib.hid (by rw [take_snocN s k hlt, List.all_append, HK.out]; simp [hb])
        clear hb HK
        go_wp2_with (refine C.mono ?_; rintro e w1 ⟨rfl, rfl⟩)
        go_roundw
        case rel => exact ⟨k + 1, by omega, by go_num, by trivial, HN⟩
        case measure => simp [intOf]; omega
      | false =>
        rw [hb] at C
        have hr := Lib.hid (all_bad s k hlt hb)
        clear hb HK
        go_wp2_with (refine C.mono ?_; rintro e w1 ⟨rfl, rfl⟩)
        go_ret
        exact ⟨by rw [hr.out]; rfl, rfl⟩
    · have hke : k = s.size := by omega
      subst hke
      have hr : okN s = true := by
        have := HK.out
        rw [List.take_of_length_le (by simp)] at this
        simp only [okN, this, Bool.and_true, Bool.and_eq_true, decide_eq_true_eq]
        omega
      have HR := Lib.hid hr
      clear hr HK
      go_wp2
      go_ret
      exact ⟨by rw [HR.out]; rfl, rfl⟩

/-! ### what a disk's block holds -/
variable {Fp : Nat → Prop} {w : World} {Bd mn ms : Nat} {vs : Nat → Value × Value} {d : DS} {m : Nat}
theorem DV.c0 (h : DV Fp w Bd mn ms vs d m) : w.cell? ⟨Bd, 0, none⟩ = some (.map (some mn)) := by rw [block_cell h.blk]; rfl
theorem DV.c1 (h : DV Fp w Bd mn ms vs d m) : w.cell? ⟨Bd, 1, none⟩ = some (.map (some ms)) := by rw [block_cell h.blk]; rfl
theorem DV.c2 (h : DV Fp w Bd mn ms vs d m) : w.cell? ⟨Bd, 2, none⟩ = some (.int .i64 d.quota) := by rw [block_cell h.blk]; rfl
theorem DV.c3 (h : DV Fp w Bd mn ms vs d m) : w.cell? ⟨Bd, 3, none⟩ = some (.int .i64 d.left) := by rw [block_cell h.blk]; rfl
theorem DV.c4 (h : DV Fp w Bd mn ms vs d m) : w.cell? ⟨Bd, 4, none⟩ = some (.bool d.dead) := by rw [block_cell h.blk]; rfl
theorem DV.fz (h : DV Fp w Bd mn ms vs d m) (i : Nat) : w.frozen? ⟨Bd, i, none⟩ = false := block_frozen h.blk
theorem FileAt.c0 {b : Nat} {f : Nm × Nm} {v : Value × Value} (h : FileAt Fp w b f v) : w.cell? ⟨b, 0, none⟩ = some v.1 := by rw [block_cell h.blk]; rfl
theorem FileAt.c1 {b : Nat} {f : Nm × Nm} {v : Value × Value} (h : FileAt Fp w b f v) : w.cell? ⟨b, 1, none⟩ = some v.2 := by rw [block_cell h.blk]; rfl
theorem FileAt.fz {b : Nat} {f : Nm × Nm} {v : Value × Value} (h : FileAt Fp w b f v) (i : Nat) : w.frozen? ⟨b, i, none⟩ = false := block_frozen h.blk

def ptrV : Option Nat → Value
  | none => .pointer none
  | some b => .pointer (some ⟨b, 0, none⟩)
theorem DV.lookM (h : DV Fp w Bd mn ms vs d m) (s : ByteArray) (hs : s.size ≤ maxLen) :
    (Instr.lookup 48 (.map (some mn)) (.string s) false).run Tryz.prog w = .ok (ptrV (getD d.now s.data.toList)) w := by
  obtain ⟨v, ps, hr, hv⟩ := h.mapN.lookup (string_keyed Tryz.underlying9) Tryz.underlying48 (Tryz.zeroValue59 w) ptrE_none (WideMaps.keyOf_string_mk Tryz.underlying9 (s := s) hs)
  rw [hr]
  rw [dat_get] at hv
  cases hg : getD d.now s.data.toList with
  | none => rw [hg] at hv; rw [ptrE_nil hv]; rfl
  | some b => rw [hg] at hv; rw [ptrE_lit hv]; rfl
theorem DV.look (h : DV Fp w Bd mn ms vs d m) (s : ByteArray) (hs : s.size ≤ 9223372036854775807) :
    (Instr.lookup 48 (.map (some mn)) (.string s) false).run Tryz.prog w = .ok (ptrV (getD d.now s.data.toList)) w := h.lookM s (by unfold maxLen; omega)
theorem DV.has_of_get (_h : DV Fp w Bd mn ms vs d m) {n : Nm} {b : Nat} (hg : getD d.now n = some b) : d.Has b := ⟨n, .inl (getD_mem hg)⟩

/-- Which file a name has, and why there is none. -/
def findE (d : DS) (n : Nm) : Int := if d.dead then 8 else match getD d.now n with | none => 5 | some _ => 0
def findV (d : DS) (n : Nm) : Option Nat := if d.dead then none else getD d.now n
set_option maxHeartbeats 1000000 in
theorem find_any (h : DV Fp w Bd mn ms vs d m) (s : ByteArray) (hs : s.size ≤ 9223372036854775807) :
    Calls Tryz.prog 46 #[.pointer (some ⟨Bd, 0, none⟩), .string s] w fun e w' => e = .returned (.tuple #[ptrV (findV d s.data.toList), .int .i64 (findE d s.data.toList)]) ∧ w' = w := by
  have c0 := h.c0
  have c4 := h.c4
  have lk := h.look s hs
  clear h
  unfold findV findE
  cases hd : d.dead with
  | true =>
    rw [hd] at c4
    clear lk c0 hd
    go_enter Tryz.func46, Tryz.ntmps46
    go_wp2
    refine bodyPost_ret (results_tmp2 rfl _ _ _) rfl ?_
    exact ⟨rfl, rfl⟩
  | false =>
    rw [hd] at c4
    clear hd
    cases hg : getD d.now s.data.toList with
    | none =>
      rw [hg] at lk
      unfold ptrV at lk
      clear hg
      go_enter Tryz.func46, Tryz.ntmps46
      go_wp2
      refine bodyPost_ret (results_tmp2 rfl _ _ _) rfl ?_
      exact ⟨rfl, rfl⟩
    | some b =>
      rw [hg] at lk
      unfold ptrV at lk
      clear hg
      go_enter Tryz.func46, Tryz.ntmps46
      go_wp2
      refine bodyPost_ret (results_tmp2 rfl _ _ _) rfl ?_
      exact ⟨rfl, rfl⟩

def sizeR (d : DS) (n : Nm) : Int := match findV d n with | none => 0 | some b => (d.fs b).1.length
set_option maxHeartbeats 1000000 in
theorem size_any (h : DV Fp w Bd mn ms vs d m) (s : ByteArray) (hs : s.size ≤ 9223372036854775807) :
    Calls Tryz.prog 27 #[.pointer (some ⟨Bd, 0, none⟩), .string s] w fun e w' => e = .returned (.tuple #[.int .i64 (sizeR d s.data.toList), .int .i64 (findE d s.data.toList)]) ∧ w' = w := by
  have FD := find_any h s hs
  unfold sizeR
  cases hv : findV d s.data.toList with
  | none =>
    have he : (findE d s.data.toList == 0) = false := by
      unfold findV at hv
      unfold findE
      cases hd : d.dead with
      | true => rfl
      | false => rw [hd] at hv; simp at hv; simp [hv]
    rw [hv] at FD
    generalize findE d s.data.toList = er at *
    clear h hv
    unfold ptrV at FD
    go_enter Tryz.func27, Tryz.ntmps27
    go_wp2_with (refine FD.mono ?_; rintro e w1 ⟨rfl, rfl⟩)
    refine bodyPost_ret (results_tmp2 rfl _ _ _) rfl ?_
    exact ⟨rfl, rfl⟩
  | some b =>
    have hg : getD d.now s.data.toList = some b := by
      unfold findV at hv
      cases hd : d.dead with
      | true => rw [hd] at hv; simp at hv
      | false => rw [hd] at hv; simpa using hv
    have he : findE d s.data.toList = 0 := by
      unfold findV at hv
      unfold findE
      cases hd : d.dead with
      | true => rw [hd] at hv; simp at hv
      | false => simp [hg]
    have hF := h.files b (h.has_of_get hg)
    have f0 := hF.c0
    obtain ⟨p, cap, hp, _, _⟩ := hF.s1.form
    have hl := (h.lens b (h.has_of_get hg)).1
    rw [hp] at f0
    rw [hv, he] at FD
    rw [he]
    simp only []
    generalize (d.fs b).1.length = L at *
    clear h hv hg he hF hp
    unfold ptrV at FD
    go_enter Tryz.func27, Tryz.ntmps27
    go_wp2_with (refine FD.mono ?_; rintro e w1 ⟨rfl, rfl⟩)
    refine bodyPost_ret (results_tmp2 rfl _ _ _) rfl ?_
    exact ⟨rfl, rfl⟩

def qDS (d : DS) (q : Int) : DS := { d with quota := max q 0 }
set_option maxHeartbeats 1000000 in
theorem quota_any (h : DV Fp w Bd mn ms vs d m) (q : Int) (hq : q ≤ 9223372036854775807) :
    Calls Tryz.prog 16 #[.pointer (some ⟨Bd, 0, none⟩), .int .i64 q] w fun e w' => e = .returned (.tuple #[]) ∧ DV Fp w' Bd mn ms vs (qDS d q) m ∧ Oth Fp w w' := by
  have HD := Lib.hid (h.setB 2 (.int .i64 (max q 0)) (q := max q 0) (l := d.left) (x := d.dead) (by omega) h.lft rfl)
  have HO := Lib.hid ((Oth.refl Fp w).setCell (p := ⟨Bd, 2, none⟩) h.fB (.int .i64 (max q 0)))
  have c2 := h.c2
  have z2 := h.fz 2
  clear h
  unfold qDS
  go_enter Tryz.func16, Tryz.ntmps16
  go_wp2
  go_end0
  exact ⟨rfl, HD.out, HO.out⟩

def armDS (d : DS) (n : Int) : DS := if d.dead then d else { d with left := n }
end Go.Proofs.YtjlkdglbnfifeaaGreatDoor
