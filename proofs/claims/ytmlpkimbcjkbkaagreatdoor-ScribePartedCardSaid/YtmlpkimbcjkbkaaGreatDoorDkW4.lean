/-
  CONTRACT of room: is there room for so many bytes?
-/
import Derived.Test.YtmlpkimbcjkbkaaGreatDoorDkW1
import Derived.Test.YtmlpkimbcjkbkaaGreatDoorShelf
import Derived.IntWalk
import Derived.WalkMore
import Derived.Maps.RangeWalk
import Derived.Deep.RegionHeld3
namespace Go.Proofs.YtmlpkimbcjkbkaaGreatDoor
open Go.RowKit Go.Maps

def Dsk (Fp : Nat → Prop) (w : World) (Bd : Nat) (d : DS) (m : Nat) : Prop := ∃ mn ms vs, mn ≠ ms ∧ DV Fp w Bd mn ms vs d m

def nmC (c : Nat) : Bool := (decide (97 ≤ c) && decide (c ≤ 122)) || (decide (48 ≤ c) && decide (c ≤ 57)) || decide (c = 46) || decide (c = 95) || decide (c = 45)
set_option maxHeartbeats 1000000 in
theorem nmc_any (c : Nat) (hc : c < 256) (w : World) : Calls Tryz.prog 83 #[.int .u8 c] w fun e w' => e = .returned (.bool (nmC c)) ∧ w' = w := by
  by_cases h1 : 97 ≤ c
  · by_cases h2 : c ≤ 122
    · have hr : nmC c = true := by simp [nmC, h1, h2]
      rw [hr]
      have i1 : decide (97 ≤ (c : Int)) = true := by simp; omega
      have i2 : decide ((c : Int) ≤ 122) = true := by simp; omega
      clear hr
      go_enter Tryz.func83, Tryz.ntmps83
      go_wp2
      go_ret
      exact ⟨rfl, rfl⟩
    · have hr : nmC c = false := by simp [nmC]; omega
      rw [hr]
      have i1 : decide (97 ≤ (c : Int)) = true := by simp; omega
      have i2 : decide ((c : Int) ≤ 122) = false := by simp; omega
      have i3 : decide (48 ≤ (c : Int)) = true := by simp; omega
      have i4 : decide ((c : Int) ≤ 57) = false := by simp; omega
      have e1 : ((c : Int) == 46) = false := by simp; omega
      have e2 : ((c : Int) == 95) = false := by simp; omega
      have e3 : ((c : Int) == 45) = false := by simp; omega
      clear hr
      go_enter Tryz.func83, Tryz.ntmps83
      go_wp2
      go_ret
      exact ⟨rfl, rfl⟩
  · by_cases h3 : 48 ≤ c
    · by_cases h4 : c ≤ 57
      · have hr : nmC c = true := by simp [nmC, h3, h4]
        rw [hr]
        have i1 : decide (97 ≤ (c : Int)) = false := by simp; omega
        have i3 : decide (48 ≤ (c : Int)) = true := by simp; omega
        have i4 : decide ((c : Int) ≤ 57) = true := by simp; omega
        clear hr
        go_enter Tryz.func83, Tryz.ntmps83
        go_wp2
        go_ret
        exact ⟨rfl, rfl⟩
      · by_cases h5 : c = 95
        · subst h5
          have hr : nmC 95 = true := rfl
          rw [hr]
          clear hr
          go_enter Tryz.func83, Tryz.ntmps83
          go_wp2
          go_ret
          exact ⟨rfl, rfl⟩
        · have hr : nmC c = false := by simp [nmC]; omega
          rw [hr]
          have i1 : decide (97 ≤ (c : Int)) = false := by simp; omega
          have i3 : decide (48 ≤ (c : Int)) = true := by simp; omega
          have i4 : decide ((c : Int) ≤ 57) = false := by simp; omega
          have e1 : ((c : Int) == 46) = false := by simp; omega
          have e2 : ((c : Int) == 95) = false := by simp; omega
          have e3 : ((c : Int) == 45) = false := by simp; omega
          clear hr
          go_enter Tryz.func83, Tryz.ntmps83
          go_wp2
          go_ret
          exact ⟨rfl, rfl⟩
    · by_cases h5 : c = 46
      · subst h5
        have hr : nmC 46 = true := rfl
        rw [hr]
        clear hr
        go_enter Tryz.func83, Tryz.ntmps83
        go_wp2
        go_ret
        exact ⟨rfl, rfl⟩
      · by_cases h6 : c = 45
        · subst h6
          have hr : nmC 45 = true := rfl
          rw [hr]
          clear hr
          go_enter Tryz.func83, Tryz.ntmps83
          go_wp2
          go_ret
          exact ⟨rfl, rfl⟩
        · have hr : nmC c = false := by simp [nmC]; omega
          rw [hr]
          have i1 : decide (97 ≤ (c : Int)) = false := by simp; omega
          have i3 : decide (48 ≤ (c : Int)) = false := by simp; omega
          have e1 : ((c : Int) == 46) = false := by simp; omega
          have e2 : ((c : Int) == 95) = false := by simp; omega
          have e3 : ((c : Int) == 45) = false := by simp; omega
          clear hr
          go_enter Tryz.func83, Tryz.ntmps83
          go_wp2
          go_ret
          exact ⟨rfl, rfl⟩

def okN (s : ByteArray) : Bool := decide (1 ≤ s.size) && decide (s.size ≤ 40) && s.data.toList.all (fun c => nmC c.toNat)
theorem okN_len {s : ByteArray} (h : okN s = true) : 1 ≤ s.size ∧ s.size ≤ 40 := by
  simp only [okN, Bool.and_eq_true, decide_eq_true_eq] at h
  exact h.1
theorem all_bad (s : ByteArray) (k : Nat) (hk : k < s.size) (h : nmC s[k].toNat = false) : okN s = false := by
  rw [Bool.eq_false_iff]
  intro e
  simp only [okN, Bool.and_eq_true, List.all_eq_true] at e
  have := e.2 s[k] (by rw [show s[k] = s.data.toList[k]'(by simpa using hk) from rfl]; exact List.getElem_mem _)
  rw [h] at this
  cases this
theorem take_snocN (s : ByteArray) (k : Nat) (h : k < s.size) : s.data.toList.take (k + 1) = s.data.toList.take k ++ [s[k]] := by
  rw [List.take_succ_eq_append_getElem (by simpa using h)]; rfl
set_option maxHeartbeats 2000000 in
theorem name_any (s : ByteArray) (w : World) (hs : s.size ≤ 9223372036854775807) : Calls Tryz.prog 48 #[.string s] w fun e w' => e = .returned (.bool (okN s)) ∧ w' = w := by
  by_cases h0 : s.size = 0
  · have hr : okN s = false := by simp [okN, h0]
    rw [hr]
    clear hr
    obtain rfl : s = ⟨#[]⟩ := by
      apply WideShapes.bytes_inj
      exact List.eq_nil_of_length_eq_zero (by simpa using h0)
    clear hs h0
    go_enter Tryz.func48, Tryz.ntmps48
    go_wp2
    go_ret
    exact ⟨rfl, rfl⟩
  have hne : s.toList.isEmpty = false := by
    rw [List.isEmpty_eq_false_iff]
    intro e
    rw [ByteArray.toList_eq] at e
    exact h0 (by have := congrArg List.length e; simpa using this)
  by_cases h1 : 40 < s.size
  · have hr : okN s = false := by
      simp only [okN, show decide (s.size ≤ 40) = false by simpa using h1, Bool.and_false, Bool.false_and]
    rw [hr]
    clear hr
    go_enter Tryz.func48, Tryz.ntmps48
    go_wp2
    go_ret
    exact ⟨rfl, rfl⟩
  go_enter Tryz.func48, Tryz.ntmps48
  go_wp2
  go_loopw [13] (fun iv wr => ∃ k : Nat, k ≤ s.size ∧ iv = .int .i64 k ∧ wr = w ∧ Hid ((s.data.toList.take k).all (fun c => nmC c.toNat) = true)) (fun iv _ => s.size - (intOf iv).toNat)
  case atStart => exact ⟨0, Nat.zero_le _, rfl, rfl, Lib.hid rfl⟩
  case round =>
    obtain ⟨k, hk, rfl, rfl, HK⟩ := hrel
    by_cases hlt : k < s.size
    · have hc : s[k].toNat < 256 := s[k].toNat_lt
      have C := nmc_any s[k].toNat hc wr
      cases hb : nmC s[k].toNat with
      | true =>
        rw [hb] at C
        have HN : Hid ((s.data.toList.take (k + 1)).all (fun c => nmC c.toNat) = true) := Lib.hid (by rw [take_snocN s k hlt, List.all_append, HK.out]; simp [hb])
        clear hb HK
        go_wp2_with (refine C.mono ?_; rintro e w1 ⟨rfl, rfl⟩)
        go_roundw
        case rel => exact ⟨k + 1, by omega, by go_num, by trivial, HN⟩
        case measure => simp [intOf]; omega
      | false =>
        rw [hb] at C
        have hr := Lib.hid (all_bad s k hlt hb)
        clear hb HK
        go_wp2_with (refine C.mono ?_; rintro e w1 ⟨rfl, rfl⟩)
        go_ret
        exact ⟨by rw [hr.out]; rfl, rfl⟩
    · have hke : k = s.size := by omega
      subst hke
      have hr : okN s = true := by
        have := HK.out
        rw [List.take_of_length_le (by simp)] at this
        simp only [okN, this, Bool.and_true, Bool.and_eq_true, decide_eq_true_eq]
        omega
      have HR := Lib.hid hr
      clear hr HK
      go_wp2
      go_ret
      exact ⟨by rw [HR.out]; rfl, rfl⟩

/-! ### what a disk's block holds -/
variable {Fp : Nat → Prop} {w : World} {Bd mn ms : Nat} {vs : Nat → Value × Value} {d : DS} {m : Nat}
theorem DV.c0 (h : DV Fp w Bd mn ms vs d m) : w.cell? ⟨Bd, 0, none⟩ = some (.map (some mn)) := by rw [block_cell h.blk]; rfl
theorem DV.c1 (h : DV Fp w Bd mn ms vs d m) : w.cell? ⟨Bd, 1, none⟩ = some (.map (some ms)) := by rw [block_cell h.blk]; rfl
theorem DV.c2 (h : DV Fp w Bd mn ms vs d m) : w.cell? ⟨Bd, 2, none⟩ = some (.int .i64 d.quota) := by rw [block_cell h.blk]; rfl
theorem DV.c3 (h : DV Fp w Bd mn ms vs d m) : w.cell? ⟨Bd, 3, none⟩ = some (.int .i64 d.left) := by rw [block_cell h.blk]; rfl
theorem DV.c4 (h : DV Fp w Bd mn ms vs d m) : w.cell? ⟨Bd, 4, none⟩ = some (.bool d.dead) := by rw [block_cell h.blk]; rfl
theorem DV.fz (h : DV Fp w Bd mn ms vs d m) (i : Nat) : w.frozen? ⟨Bd, i, none⟩ = false := block_frozen h.blk
theorem FileAt.c0 {b : Nat} {f : Nm × Nm} {v : Value × Value} (h : FileAt Fp w b f v) : w.cell? ⟨b, 0, none⟩ = some v.1 := by rw [block_cell h.blk]; rfl
theorem FileAt.c1 {b : Nat} {f : Nm × Nm} {v : Value × Value} (h : FileAt Fp w b f v) : w.cell? ⟨b, 1, none⟩ = some v.2 := by rw [block_cell h.blk]; rfl
theorem FileAt.fz {b : Nat} {f : Nm × Nm} {v : Value × Value} (h : FileAt Fp w b f v) (i : Nat) : w.frozen? ⟨b, i, none⟩ = false := block_frozen h.blk

def ptrV : Option Nat → Value
  | none => .pointer none
  | some b => .pointer (some ⟨b, 0, none⟩)
theorem DV.lookM (h : DV Fp w Bd mn ms vs d m) (s : ByteArray) (hs : s.size ≤ maxLen) :
    (Instr.lookup 60 (.map (some mn)) (.string s) false).run Tryz.prog w = .ok (ptrV (getD d.now s.data.toList)) w := by
  obtain ⟨v, ps, hr, hv⟩ := h.mapN.lookup (string_keyed Tryz.underlying9) Tryz.underlying60 (Tryz.zeroValue106 w) ptrE_none (WideMaps.keyOf_string_mk Tryz.underlying9 (s := s) hs)
  rw [hr]
  rw [dat_get] at hv
  cases hg : getD d.now s.data.toList with
  | none => rw [hg] at hv; rw [ptrE_nil hv]; rfl
  | some b => rw [hg] at hv; rw [ptrE_lit hv]; rfl
theorem DV.look (h : DV Fp w Bd mn ms vs d m) (s : ByteArray) (hs : s.size ≤ 9223372036854775807) :
    (Instr.lookup 60 (.map (some mn)) (.string s) false).run Tryz.prog w = .ok (ptrV (getD d.now s.data.toList)) w := h.lookM s (by unfold maxLen; omega)
theorem DV.has_of_get (_h : DV Fp w Bd mn ms vs d m) {n : Nm} {b : Nat} (hg : getD d.now n = some b) : d.Has b := ⟨n, .inl (getD_mem hg)⟩

/-- Which file a name has, and why there is none. -/
def findE (d : DS) (n : Nm) : Int := if d.dead then 8 else match getD d.now n with | none => 5 | some _ => 0
def findV (d : DS) (n : Nm) : Option Nat := if d.dead then none else getD d.now n
set_option maxHeartbeats 1000000 in
theorem find_any (h : DV Fp w Bd mn ms vs d m) (s : ByteArray) (hs : s.size ≤ 9223372036854775807) :
    Calls Tryz.prog 55 #[.pointer (some ⟨Bd, 0, none⟩), .string s] w fun e w' => e = .returned (.tuple #[ptrV (findV d s.data.toList), .int .i64 (findE d s.data.toList)]) ∧ w' = w := by
  have c0 := h.c0
  have c4 := h.c4
  have lk := h.look s hs
  clear h
  unfold findV findE
  cases hd : d.dead with
  | true =>
    rw [hd] at c4
    clear lk c0 hd
    go_enter Tryz.func55, Tryz.ntmps55
    go_wp2
    refine bodyPost_ret (results_tmp2 rfl _ _ _) rfl ?_
    exact ⟨rfl, rfl⟩
  | false =>
    rw [hd] at c4
    clear hd
    cases hg : getD d.now s.data.toList with
    | none =>
      rw [hg] at lk
      unfold ptrV at lk
      clear hg
      go_enter Tryz.func55, Tryz.ntmps55
      go_wp2
      refine bodyPost_ret (results_tmp2 rfl _ _ _) rfl ?_
      exact ⟨rfl, rfl⟩
    | some b =>
      rw [hg] at lk
      unfold ptrV at lk
      clear hg
      go_enter Tryz.func55, Tryz.ntmps55
      go_wp2
      refine bodyPost_ret (results_tmp2 rfl _ _ _) rfl ?_
      exact ⟨rfl, rfl⟩

def sizeR (d : DS) (n : Nm) : Int := match findV d n with | none => 0 | some b => (d.fs b).1.length
set_option maxHeartbeats 1000000 in
theorem size_any (h : DV Fp w Bd mn ms vs d m) (s : ByteArray) (hs : s.size ≤ 9223372036854775807) :
    Calls Tryz.prog 26 #[.pointer (some ⟨Bd, 0, none⟩), .string s] w fun e w' => e = .returned (.tuple #[.int .i64 (sizeR d s.data.toList), .int .i64 (findE d s.data.toList)]) ∧ w' = w := by
  have FD := find_any h s hs
  unfold sizeR
  cases hv : findV d s.data.toList with
  | none =>
    have he : (findE d s.data.toList == 0) = false := by
      unfold findV at hv
      unfold findE
      cases hd : d.dead with
      | true => rfl
      | false => rw [hd] at hv; simp at hv; simp [hv]
    rw [hv] at FD
    generalize findE d s.data.toList = er at *
    clear h hv
    unfold ptrV at FD
    go_enter Tryz.func26, Tryz.ntmps26
    go_wp2_with (refine FD.mono ?_; rintro e w1 ⟨rfl, rfl⟩)
    refine bodyPost_ret (results_tmp2 rfl _ _ _) rfl ?_
    exact ⟨rfl, rfl⟩
  | some b =>
    have hg : getD d.now s.data.toList = some b := by
      unfold findV at hv
      cases hd : d.dead with
      | true => rw [hd] at hv; simp at hv
      | false => rw [hd] at hv; simpa using hv
    have he : findE d s.data.toList = 0 := by
      unfold findV at hv
      unfold findE
      cases hd : d.dead with
      | true => rw [hd] at hv; simp at hv
      | false => simp [hg]
    have hF := h.files b (h.has_of_get hg)
    have f0 := hF.c0
    obtain ⟨p, cap, hp, _, _⟩ := hF.s1.form
    have hl := (h.lens b (h.has_of_get hg)).1
    rw [hp] at f0
    rw [hv, he] at FD
    rw [he]
    simp only []
    generalize (d.fs b).1.length = L at *
    clear h hv hg he hF hp
    unfold ptrV at FD
    go_enter Tryz.func26, Tryz.ntmps26
    go_wp2_with (refine FD.mono ?_; rintro e w1 ⟨rfl, rfl⟩)
    refine bodyPost_ret (results_tmp2 rfl _ _ _) rfl ?_
    exact ⟨rfl, rfl⟩

def qDS (d : DS) (q : Int) : DS := { d with quota := max q 0 }
set_option maxHeartbeats 1000000 in
theorem quota_any (h : DV Fp w Bd mn ms vs d m) (q : Int) (hq : q ≤ 9223372036854775807) :
    Calls Tryz.prog 19 #[.pointer (some ⟨Bd, 0, none⟩), .int .i64 q] w fun e w' => e = .returned (.tuple #[]) ∧ DV Fp w' Bd mn ms vs (qDS d q) m ∧ Oth Fp w w' := by
  have HD := Lib.hid (h.setB 2 (.int .i64 (max q 0)) (q := max q 0) (l := d.left) (x := d.dead) (by omega) h.lft rfl)
  have HO := Lib.hid ((Oth.refl Fp w).setCell (p := ⟨Bd, 2, none⟩) h.fB (.int .i64 (max q 0)))
  have c2 := h.c2
  have z2 := h.fz 2
  clear h
  unfold qDS
  go_enter Tryz.func19, Tryz.ntmps19
  go_wp2
  go_end0
  exact ⟨rfl, HD.out, HO.out⟩

def armDS (d : DS) (n : Int) : DS := if d.dead then d else { d with left := n }
end Go.Proofs.YtmlpkimbcjkbkaaGreatDoor

namespace Go.Proofs.YtmlpkimbcjkbkaaGreatDoor
open Go.RowKit Go.Maps

def leftS (l : Dir) (g : Nm × Nat → Nat) (left : Lit → Bool) : Nat := ((l.filter (fun p => !left (.string p.1))).map g).sum
theorem leftS_all (l : Dir) (g : Nm × Nat → Nat) (left : Lit → Bool) (h : ∀ kl, left kl = false) : leftS l g left = (l.map g).sum := by
  unfold leftS
  rw [List.filter_eq_self.2 (fun p _ => by simp [h])]
theorem leftS_none (l : Dir) (g : Nm × Nat → Nat) (left : Lit → Bool) (h : ∀ p ∈ l, left (.string p.1) = true) : leftS l g left = 0 := by
  unfold leftS
  rw [List.filter_eq_nil_iff.2 (fun p hp => by simp [h p hp])]
  rfl
theorem leftS_le (l : Dir) (g : Nm × Nat → Nat) (left : Lit → Bool) : leftS l g left ≤ (l.map g).sum := by
  unfold leftS
  induction l with
  | nil => simp
  | cons x r ih =>
    rw [List.filter_cons]
    split
    · simp only [List.map_cons, List.sum_cons]; omega
    · simp only [List.map_cons, List.sum_cons]; omega
theorem leftS_step {l : Dir} (hs : Srt l) (g : Nm × Nat → Nat) (left : Lit → Bool) {n : Nm} {b : Nat} (hm : (n, b) ∈ l) (hl : left (.string n) = true) :
    leftS l g (fun z => left z && !z.sameKey (.string n)) = leftS l g left + g (n, b) := by
  have other : ∀ {r : Dir}, (∀ p ∈ r, p.1 ≠ n) → leftS r g (fun z => left z && !z.sameKey (.string n)) = leftS r g left := by
    intro r hr
    unfold leftS
    congr 2
    apply List.filter_congr
    intro p hp
    have e : (Lit.string p.1).sameKey (.string n) = false := by simp [Lit.sameKey, hr p hp]
    simp [e]
  induction l with
  | nil => cases hm
  | cons x r ih =>
    have h' := List.pairwise_cons.1 hs
    by_cases hx : x.1 = n
    · have hxb : x = (n, b) := by
        rcases List.mem_cons.1 hm with e | hm
        · exact e.symm
        · exact absurd (h'.1 _ hm) (by rw [hx]; exact nm_irrefl n)
      subst hxb
      have ho := other (r := r) (fun p hp e => nm_irrefl n (by have := h'.1 p hp; rw [e] at this; exact this))
      unfold leftS at ho ⊢
      rw [List.filter_cons_of_pos (by simp [Lit.sameKey]), List.filter_cons_of_neg (by simp [hl])]
      simp only [List.map_cons, List.sum_cons, ho]
      omega
    · have hm' : (n, b) ∈ r := by
        rcases List.mem_cons.1 hm with e | hm
        · rw [← e] at hx; exact absurd rfl hx
        · exact hm
      have hi := ih h'.2 hm'
      have e : (Lit.string x.1).sameKey (.string n) = false := by simp [Lit.sameKey, hx]
      unfold leftS at hi ⊢
      rw [List.filter_cons, List.filter_cons]
      simp only [e, Bool.not_false, Bool.and_true]
      split
      · simp only [List.map_cons, List.sum_cons, hi]; omega
      · exact hi
def lenNow (d : DS) (p : Nm × Nat) : Nat := (d.fs p.2).1.length
def usedD (d : DS) : Nat := (d.now.map (lenNow d)).sum
theorem sum_le_mul (l : Dir) (g : Nm × Nat → Nat) (k : Nat) (h : ∀ p ∈ l, g p ≤ k) : (l.map g).sum ≤ k * l.length := by
  induction l with
  | nil => simp
  | cons x r ih =>
    have := ih (fun p hp => h p (by simp [hp]))
    have := h x (by simp)
    simp only [List.map_cons, List.sum_cons, List.length_cons, Nat.mul_add, Nat.mul_one]
    omega
variable {Fp : Nat → Prop} {w : World} {Bd mn ms : Nat} {vs : Nat → Value × Value} {d : DS} {m : Nat}
theorem DV.used_le (h : DV Fp w Bd mn ms vs d m) : usedD d ≤ 104857600000 := by
  have h1 := sum_le_mul d.now (lenNow d) 1048576 (fun p hp => (h.lens p.2 ⟨p.1, .inl hp⟩).1)
  have h2 := h.lenN
  have h3 := h.few
  have h4 : 1048576 * d.now.length ≤ 1048576 * 100000 := Nat.mul_le_mul_left _ (by omega)
  unfold usedD
  omega
theorem string_key {k : TypeId} {P : Program} (hk : P.underlying k = some .string) {key : Value} {kl : Lit} (h : keyOf P k key = some kl) : ∃ x : ByteArray, key = .string x ∧ kl = .string x.data.toList := by
  rw [keyOf_string hk] at h
  unfold mapKey at h
  rw [hk] at h
  cases key <;> simp at h
  rename_i s
  exact ⟨s, rfl, h.2.symm⟩
set_option maxHeartbeats 2000000 in
theorem used_any (h : DV Fp w Bd mn ms vs d m) : Calls Tryz.prog 84 #[.pointer (some ⟨Bd, 0, none⟩)] w fun e w' => e = .returned (.int .i64 (usedD d)) ∧ Below w.heap.size w w' := by
  have c0 := h.c0
  have HU := h.used_le
  have H := Lib.hid h
  have HM := h.mapN
  clear h
  go_enter Tryz.func84, Tryz.ntmps84
  go_wp2_with (first | (at_range; refine wpList_range_own _ rfl _ 60 rfl 9 106 (string_keyed Tryz.underlying9) Tryz.underlying60 ptrE mn m (dat d.now) rfl HM ?_; intro w0 hrg0 hg0 hs0) | go_in)
  go_frame
  have HB0 : Below w.heap.size w w0 := ⟨hg0.os, hg0.tape, hg0.output, hg0.size, fun k hk => hg0.block k hk (by simp)⟩
  have HS := Lib.hid (show ∃ left cnt, w0.ranges Tryz.prog 9 ptrE mn w.heap.size m (dat d.now) left cnt ∧ (0 : Int) = (leftS d.now (lenNow d) left : Nat) ∧ Below w.heap.size w w0 from ⟨_, _, hrg0, by
    rw [leftS_none _ _ _ (fun p hp => by rw [dat_has, getD_of_mem H.out.srtN (b := p.2) hp]; rfl)]; rfl, HB0⟩)
  clear hrg0 hg0 hs0 HB0
  go_loopw [3] (fun n wr => ∃ s : Int, n = .int .i64 s ∧ Hid (∃ left cnt, wr.ranges Tryz.prog 9 ptrE mn w.heap.size m (dat d.now) left cnt ∧ s = (leftS d.now (lenNow d) left : Nat) ∧ Below w.heap.size w wr)) (fun _ wr => wr.rangeLeft mn w.heap.size)
  case atStart => exact ⟨0, rfl, HS⟩
  case round =>
    obtain ⟨s, rfl, HK⟩ := hrel
    obtain ⟨left0, cnt, hrg, hsum, hB⟩ := HK.out
    clear HK HS
    have hle := leftS_le d.now (lenNow d) left0
    go_wp2_with (first
      | (at_next; refine wpList_next_ranges _ rfl _ rfl 9 (string_keyed Tryz.underlying9) ptrE Value.string ptrV (fun key kl hk => by obtain ⟨x, hx, _⟩ := string_key Tryz.underlying9 hk; exact ⟨x, hx⟩) (fun v y hy => by
          rcases ptrE_inv hy with ⟨rfl, _⟩ | ⟨b, rfl, _⟩
          · exact ⟨none, rfl⟩
          · exact ⟨some b, rfl⟩) mn w.heap.size m _ _ _ rfl hrg ?_ ?_)
      | go_in)
    · intro hc0 hl0
      have HF := Lib.hid (show leftS d.now (lenNow d) left0 = usedD d from by rw [leftS_all _ _ _ hl0]; rfl)
      clear hle hrg
      go_wp2
      go_ret
      exact ⟨by rw [← HF.out]; rfl, hB⟩
    · intro x c kl y yp w1 cnt1 hk hlk hR hat hrg1 hlt hg1 hs1 hen
      obtain ⟨x', ex, rfl⟩ := string_key Tryz.underlying9 hk
      obtain rfl : x = x' := by simpa using ex
      have hget : ∃ b, getD d.now x.data.toList = some b ∧ c = some b := by
        have h1 := hat .nil
        have h2 := hat (.agg [])
        rw [dat_get] at h1
        cases hg : getD d.now x.data.toList with
        | none =>
          have hno : Maps.has (dat d.now) (.string x.data.toList) = false := by rw [dat_has, hg]; rfl
          have e1 := Maps.atKey_of_not_has hno (.nil : DataW Unit)
          have e2 := Maps.atKey_of_not_has hno (.agg [] : DataW Unit)
          rw [hat] at e1 e2
          rw [e1] at e2
          cases e2
        | some b =>
          rw [hg] at h1
          refine ⟨b, rfl, ?_⟩
          cases c with
          | none => rw [show ptrV none = .pointer none from rfl, ptrE_none] at hR; simp at hR; rw [← hR.1] at h1; cases h1
          | some b' =>
            rw [show ptrV (some b') = .pointer (some ⟨b', 0, none⟩) from rfl, ptrE_some] at hR
            simp at hR
            rw [← hR.1] at h1
            simp at h1
            rw [show b' = b by omega]
      obtain ⟨b, hgb, rfl⟩ := hget
      have hmem := getD_mem hgb
      have hF := H.out.files b ⟨_, .inl hmem⟩
      have hB1 : Below w.heap.size w w1 := hB.grown hg1 hB.size (fun k e => by cases e; exact Nat.le_refl _)
      have f0 := hF.c0
      have hlt0 := hF.lt
      obtain ⟨p, cap, hp, _, _⟩ := hF.s1.form
      rw [hp] at f0
      have f1 : w1.cell? ⟨b, 0, none⟩ = some (.slice p (d.fs b).1.length cap) := (hB1.cell (p := ⟨b, 0, none⟩) hlt0).trans f0
      have hstep := leftS_step H.out.srtN (lenNow d) left0 hmem hlk
      have hle1 := leftS_le d.now (lenNow d) (fun z => left0 z && !z.sameKey (.string x.data.toList))
      rw [hstep] at hle1
      have hlen : (d.fs b).1.length = lenNow d (x.data.toList, b) := rfl
      have hbig : leftS d.now (lenNow d) left0 + lenNow d (x.data.toList, b) ≤ 104857600000 := Nat.le_trans hle1 HU
      have HN : Hid (∃ left cnt, w1.ranges Tryz.prog 9 ptrE mn w.heap.size m (dat d.now) left cnt ∧ ((leftS d.now (lenNow d) left0 : Int) + ((d.fs b).1.length : Int)) = (leftS d.now (lenNow d) left : Nat) ∧ Below w.heap.size w w1) := Lib.hid ⟨_, _, hrg1, by rw [hstep, ← hlen]; omega, hB1⟩
      have hm1 : w1.rangeLeft mn w.heap.size < wr.rangeLeft mn w.heap.size := by rw [hrg1.left_eq, hrg.left_eq]; exact hlt
      rw [← hlen] at hbig
      simp only [ptrV] at hen
      clear hrg1 hrg hat hR hk hstep hle1 hle hlen hF hp hgb hg1 hs1 HM hmem hlk hB1 hB c0 HU
      subst hsum
      generalize leftS d.now (lenNow d) left0 = s0 at *
      generalize (d.fs b).1.length = s1 at *
      have HN2 := HN
      clear HN
      generalize hH : Hid _ = HP at HN2
      go_wp2
      go_roundw
      case rel => exact ⟨_, rfl, by rw [hH]; exact HN2⟩
      case measure => exact hm1
end Go.Proofs.YtmlpkimbcjkbkaaGreatDoor

namespace Go.Proofs.YtmlpkimbcjkbkaaGreatDoor
open Go.RowKit Go.Maps

theorem drew2 {w w' : World} {a : Addr} {v : Value} {B : Nat} (h : w'.cell? a = some v ∧ Below B w w') : w'.drew.cell? a = some v ∧ Below B w w'.drew := ⟨h.1, h.2.drew⟩
theorem wrap_in {x : Int} (h1 : -9223372036854775808 ≤ x) (h2 : x ≤ 9223372036854775807) : IntKind.i64.wrap x = x := by
  simp [IntKind.wrap, IntKind.bits, IntKind.signed]
  omega
variable {Fp : Nat → Prop} {w : World} {Bd mn ms : Nat} {vs : Nat → Value × Value} {d : DS} {m : Nat}
def hasL (d : DS) (n : Nm) : Nat := match getD d.now n with | none => 0 | some b => (d.fs b).1.length
def roomE (d : DS) (n : Nm) (k : Int) : Int :=
  if getD d.now n = none ∧ 100 ≤ d.now.length then 7
  else if d.quota - (usedD d : Nat) < k then 7
  else if 1048576 - (hasL d n : Nat) < k then 12 else 0
theorem roomE_low (d : DS) (n : Nm) (k : Int) (h0 : ¬ (getD d.now n = none ∧ 100 ≤ d.now.length)) : roomE d n k = if d.quota - (usedD d : Nat) < k then 7 else if 1048576 - (hasL d n : Nat) < k then 12 else 0 := by
  unfold roomE; rw [if_neg h0]
set_option maxHeartbeats 4000000 in
set_option maxRecDepth 100000 in
theorem room_any (h : DV Fp w Bd mn ms vs d m) (s : ByteArray) (hs : s.size ≤ 9223372036854775807) (k : Nat) (hk : k ≤ 100000000) :
    Calls Tryz.prog 49 #[.pointer (some ⟨Bd, 0, none⟩), .string s, .int .i64 k] w fun e w' => e = .returned (.int .i64 (roomE d s.data.toList k)) ∧ Below w.heap.size w w' := by
  have c0 := h.c0
  have c2 := h.c2
  have lk := h.look s hs
  have hwr : IntKind.i64.wrap (d.quota - (usedD d : Nat)) = d.quota - (usedD d : Nat) := by
    have hq := h.quo
    have hu := h.used_le
    exact wrap_in (by omega) (by omega)
  have hln := h.mapN.len Tryz.underlying60 3
  rw [dat_size] at hln
  have UC : Hid (∀ w', Below w.heap.size w w' → Calls Tryz.prog 84 #[.pointer (some ⟨Bd, 0, none⟩)] w' fun e w1 => e = .returned (.int .i64 (usedD d)) ∧ Below w.heap.size w w1) := Lib.hid (fun w' hb => (used_any (h.below hb)).mono (fun e w1 he => ⟨he.1, hb.trans (he.2.mono hb.size)⟩))
  have hltB := h.ltB
  have hbw := And.intro h.c2 (Below.refl w.heap.size w)
  cases hg : getD d.now s.data.toList with
  | none =>
    rw [hg] at lk
    unfold ptrV at lk
    by_cases h1 : 100 ≤ d.now.length
    · have hr : roomE d s.data.toList k = 7 := by unfold roomE; rw [if_pos ⟨hg, h1⟩]
      rw [hr]
      generalize d.now.length = L at *
      clear hr hg UC h hwr
      go_enter Tryz.func49, Tryz.ntmps49
      go_wp2
      go_ret
      exact ⟨rfl, Below.refl _ _⟩
    · have hr := roomE_low d s.data.toList k (by rw [hg]; simp; omega)
      have hh : hasL d s.data.toList = 0 := by unfold hasL; rw [hg]
      rw [hh] at hr
      rw [hr]
      have hL2 : decide (100 ≤ (d.now.length : Int)) = false := by simp; omega
      generalize d.now.length = L at *
      generalize (usedD d : Nat) = U at *
      generalize d.quota = q at *
      clear hr hg h hh h1
      by_cases h2 : q - (U : Int) < k
      · rw [if_pos h2]
        go_enter Tryz.func49, Tryz.ntmps49
        go_wp2
        go_region_held3 (fun w' => w'.cell? ⟨Bd, 2, none⟩ = some (.int .i64 q) ∧ Below w.heap.size w w') (first | assumption | exact drew2 (by assumption) | go_keep) (first | ((with_reducible refine (UC.out _ (And.right (by assumption))).mono ?_); rintro e w8 ⟨rfl, hb8⟩; have k8 := And.intro ((hb8.cell (p := ⟨Bd, 2, none⟩) hltB).trans c2) hb8))
        all_goals
          have HB9 := Lib.hid k8.2
          clear k8
          go_wp2
          go_ret
          exact ⟨rfl, HB9.out⟩
      · rw [if_neg h2]
        have h2' : decide (q - (U : Int) < k) = false := by simpa using h2
        by_cases h3 : 1048576 - (0 : Int) < k
        · rw [if_pos (by simpa using h3)]
          go_enter Tryz.func49, Tryz.ntmps49
          go_wp2
          go_region_held3 (fun w' => w'.cell? ⟨Bd, 2, none⟩ = some (.int .i64 q) ∧ Below w.heap.size w w') (first | assumption | exact drew2 (by assumption) | go_keep) (first | ((with_reducible refine (UC.out _ (And.right (by assumption))).mono ?_); rintro e w8 ⟨rfl, hb8⟩; have k8 := And.intro ((hb8.cell (p := ⟨Bd, 2, none⟩) hltB).trans c2) hb8))
          all_goals
            have HB9 := Lib.hid k8.2
            clear k8
            go_wp2
            go_ret
            exact ⟨rfl, HB9.out⟩
        · rw [if_neg (by simpa using h3)]
          have h3' : decide (1048576 - (0 : Int) < k) = false := by simpa using h3
          go_enter Tryz.func49, Tryz.ntmps49
          go_wp2
          go_region_held3 (fun w' => w'.cell? ⟨Bd, 2, none⟩ = some (.int .i64 q) ∧ Below w.heap.size w w') (first | assumption | exact drew2 (by assumption) | go_keep) (first | ((with_reducible refine (UC.out _ (And.right (by assumption))).mono ?_); rintro e w8 ⟨rfl, hb8⟩; have k8 := And.intro ((hb8.cell (p := ⟨Bd, 2, none⟩) hltB).trans c2) hb8))
          all_goals
            have HB9 := Lib.hid k8.2
            clear k8
            go_wp2
            go_ret
            exact ⟨rfl, HB9.out⟩
  | some b =>
    rw [hg] at lk
    unfold ptrV at lk
    have hr := roomE_low d s.data.toList k (by rw [hg]; simp)
    have hh : hasL d s.data.toList = (d.fs b).1.length := by unfold hasL; rw [hg]
    rw [hh] at hr
    rw [hr]
    have hF := h.files b (h.has_of_get hg)
    have f0 := hF.c0
    obtain ⟨p, cap, hp, _, _⟩ := hF.s1.form
    rw [hp] at f0
    have hle := (h.lens b (h.has_of_get hg)).1
    generalize (d.fs b).1.length = HL at *
    generalize (usedD d : Nat) = U at *
    generalize d.quota = q at *
    clear hr hg h hh hF hp hln
    by_cases h2 : q - (U : Int) < k
    · rw [if_pos h2]
      go_enter Tryz.func49, Tryz.ntmps49
      go_wp2
      go_region_held3 (fun w' => w'.cell? ⟨Bd, 2, none⟩ = some (.int .i64 q) ∧ Below w.heap.size w w') (first | assumption | exact drew2 (by assumption) | go_keep) (first | ((with_reducible refine (UC.out _ (And.right (by assumption))).mono ?_); rintro e w8 ⟨rfl, hb8⟩; have k8 := And.intro ((hb8.cell (p := ⟨Bd, 2, none⟩) hltB).trans c2) hb8))
      all_goals
        have HB9 := Lib.hid k8.2
        clear k8
        go_wp2
        go_ret
        exact ⟨rfl, HB9.out⟩
    · rw [if_neg h2]
      have h2' : decide (q - (U : Int) < k) = false := by simpa using h2
      by_cases h3 : 1048576 - (HL : Int) < k
      · rw [if_pos (by simpa using h3)]
        go_enter Tryz.func49, Tryz.ntmps49
        go_wp2
        go_region_held3 (fun w' => w'.cell? ⟨Bd, 2, none⟩ = some (.int .i64 q) ∧ Below w.heap.size w w') (first | assumption | exact drew2 (by assumption) | go_keep) (first | ((with_reducible refine (UC.out _ (And.right (by assumption))).mono ?_); rintro e w8 ⟨rfl, hb8⟩; have k8 := And.intro ((hb8.cell (p := ⟨Bd, 2, none⟩) hltB).trans c2) hb8))
        all_goals
          have HB9 := Lib.hid k8.2
          clear k8
          go_wp2
          go_ret
          exact ⟨rfl, HB9.out⟩
      · rw [if_neg (by simpa using h3)]
        have h3' : decide (1048576 - (HL : Int) < k) = false := by simpa using h3
        go_enter Tryz.func49, Tryz.ntmps49
        go_wp2
        go_region_held3 (fun w' => w'.cell? ⟨Bd, 2, none⟩ = some (.int .i64 q) ∧ Below w.heap.size w w') (first | assumption | exact drew2 (by assumption) | go_keep) (first | ((with_reducible refine (UC.out _ (And.right (by assumption))).mono ?_); rintro e w8 ⟨rfl, hb8⟩; have k8 := And.intro ((hb8.cell (p := ⟨Bd, 2, none⟩) hltB).trans c2) hb8))
        all_goals
          have HB9 := Lib.hid k8.2
          clear k8
          go_wp2
          go_ret
          exact ⟨rfl, HB9.out⟩
end Go.Proofs.YtmlpkimbcjkbkaaGreatDoor
