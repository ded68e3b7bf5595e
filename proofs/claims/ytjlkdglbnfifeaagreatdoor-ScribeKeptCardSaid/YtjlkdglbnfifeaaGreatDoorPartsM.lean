/-
  PLAIN MATHEMATICS: the things of bytes that stand one behind the other; numbers and texts, each in a list of its own.
-/
import Derived.Test.YtjlkdglbnfifeaaGreatDoorBackW1
import Derived.Test.YtjlkdglbnfifeaaGreatDoorThingsI
namespace Go.Proofs.YtjlkdglbnfifeaaGreatDoor.Pk
open Go.RowKit

theorem encs_split {ins : List Th} {m : Nat} (h : m < ins.length) : encs ins = encs (ins.take m) ++ (ins[m].enc ++ encs (ins.drop (m + 1))) := by
  have e : ins = ins.take m ++ ins[m] :: ins.drop (m + 1) := by simp
  have e2 : encs ins = encs (ins.take m ++ ins[m] :: ins.drop (m + 1)) := congrArg encs e
  rw [e2]
  unfold encs
  rw [List.flatMap_append, List.flatMap_cons]
theorem at_thing {s : ByteArray} {ins : List Th} {R : List UInt8} {m : Nat} (hs : s.data.toList = encs ins ++ R) (h : m < ins.length) : At s (encs (ins.take m)).length (ins[m].enc ++ (encs (ins.drop (m + 1)) ++ R)) := by
  have h0 : At s 0 (encs (ins.take m) ++ (ins[m].enc ++ (encs (ins.drop (m + 1)) ++ R))) := by
    unfold At
    rw [List.drop_zero, hs, encs_split h]; simp
  have := h0.tail
  rwa [Nat.zero_add] at this
theorem at_rest {s : ByteArray} {ins : List Th} {R : List UInt8} (hs : s.data.toList = encs ins ++ R) : At s (encs ins).length R := by
  have h0 : At s 0 (encs ins ++ R) := by unfold At; rw [List.drop_zero, hs]
  have := h0.tail
  rwa [Nat.zero_add] at this
/-- Where the Reader stands behind m things, and how deep. -/
def posM (ins : List Th) (m : Nat) : Nat := (encs (ins.take m)).length
def depM (ins : List Th) (m : Nat) : Nat := (dep (ins.take m)).toNat
theorem posM_succ {ins : List Th} {m : Nat} (h : m < ins.length) : posM ins (m + 1) = posM ins m + ins[m].enc.length := by
  unfold posM; rw [encs_snoc h, List.length_append]
theorem depM_succ {ins : List Th} {m : Nat} (hg : Good ins) (h : m < ins.length) : (depM ins (m + 1) : Int) = depM ins m + ins[m].dlt := by
  have h1 := hg.deep m (by omega)
  have h2 := hg.deep (m + 1) (by omega)
  unfold depM
  rw [List.take_succ_eq_append_getElem h, dep_snoc] at h2 ⊢
  omega
theorem posM_le {s : ByteArray} {ins : List Th} {R : List UInt8} {m : Nat} (hs : s.data.toList = encs ins ++ R) (_h : m ≤ ins.length) : posM ins m ≤ s.size := by
  have h1 := congrArg List.length hs
  have h2 : encs ins = encs (ins.take m) ++ encs (ins.drop m) := by
    conv => lhs; rw [← List.take_append_drop m ins]
    unfold encs; rw [List.flatMap_append]
  have h3 := congrArg List.length h2
  simp at h1 h3
  unfold posM; omega
theorem depM_le {ins : List Th} {m : Nat} (hg : Good ins) (h : m ≤ ins.length) : depM ins m ≤ m := by
  have := hg.deep m h
  unfold depM; omega

section
variable {w : World} {b m : Nat} {s : ByteArray} {ins : List Th} {R : List UInt8} {n : Int} {st : ByteArray}
theorem rd_int (h : Rd w b s (posM ins m) (depM ins m) 0) (hs : s.data.toList = encs ins ++ R) (hg : Good ins) (hm : m < ins.length) (hz : s.size ≤ 100000) (e : ins[m] = ⟨1, n, st⟩) :
    Calls Tryz.prog 63 #[.pointer (some ⟨b, 0, none⟩)] w fun e w' => e = .returned (.int .i64 n) ∧ RdPost b s (posM ins (m + 1)) (depM ins (m + 1)) 0 w w' := by
  have ha := at_thing hs hm
  have hp := posM_succ hm
  have hd := depM_succ hg hm
  have hk := (hg.kind _ (List.getElem_mem hm)).2.2
  rw [e] at ha hp hd hk
  have hd' : depM ins (m + 1) = depM ins m := by simp [Th.dlt] at hd; omega
  have hr := int_read (i := posM ins m) ha hk.1 hk.2.1
  have := int_any b s (posM ins m) (depM ins m) 0 w h (posM_le hs (by omega)) (by unfold maxLen; omega)
  rw [hr] at this
  rw [hp, hd']
  exact this
theorem rd_open (h : Rd w b s (posM ins m) (depM ins m) 0) (hs : s.data.toList = encs ins ++ R) (hg : Good ins) (hm : m < ins.length) (h40 : ins.length ≤ 40) (hz : s.size ≤ 100000) (e : ins[m] = ⟨3, n, st⟩) :
    Calls Tryz.prog 64 #[.pointer (some ⟨b, 0, none⟩)] w fun e w' => e = .returned (.tuple #[]) ∧ RdPost b s (posM ins (m + 1)) (depM ins (m + 1)) 0 w w' := by
  have ha := at_thing hs hm
  have hp := posM_succ hm
  have hd := depM_succ hg hm
  have hl := depM_le hg (m := m) (by omega)
  rw [e] at ha hp hd
  have hd' : depM ins (m + 1) = depM ins m + 1 := by simp [Th.dlt] at hd; omega
  obtain ⟨r1, r2, r3⟩ := open_read (i := posM ins m) (j := depM ins m) ha (by omega)
  have := ropen_any b s (posM ins m) (depM ins m) 0 w h (posM_le hs (by omega)) (by omega) (by unfold maxLen; omega)
  rw [r1, r2, r3] at this
  rw [hp, hd']
  exact this
theorem rd_close (h : Rd w b s (posM ins m) (depM ins m) 0) (hs : s.data.toList = encs ins ++ R) (hg : Good ins) (hm : m < ins.length) (h40 : ins.length ≤ 40) (hz : s.size ≤ 100000) (e : ins[m] = ⟨4, n, st⟩) :
    Calls Tryz.prog 66 #[.pointer (some ⟨b, 0, none⟩)] w fun e w' => e = .returned (.tuple #[]) ∧ RdPost b s (posM ins (m + 1)) (depM ins (m + 1)) 0 w w' := by
  have ha := at_thing hs hm
  have hp := posM_succ hm
  have hd := depM_succ hg hm
  have hl := depM_le hg (m := m) (by omega)
  rw [e] at ha hp hd
  have hd' : depM ins (m + 1) = depM ins m - 1 ∧ 0 < depM ins m := by simp [Th.dlt] at hd; omega
  obtain ⟨r1, r2, r3⟩ := close_read (i := posM ins m) (j := depM ins m) ha hd'.2
  have := rclose_any b s (posM ins m) (depM ins m) 0 w h (posM_le hs (by omega)) (by omega) (by unfold maxLen; omega)
  rw [r1, r2, r3] at this
  rw [hp, hd'.1]
  exact this
theorem rd_end {i j : Nat} (h : Rd w b s ((encs ins).length + i) (j - i) 0) (hs : s.data.toList = encs ins ++ List.replicate j 41) (hi : i < j) (hj : j ≤ 60) (hz : s.size ≤ 100000) :
    Calls Tryz.prog 66 #[.pointer (some ⟨b, 0, none⟩)] w fun e w' => e = .returned (.tuple #[]) ∧ RdPost b s ((encs ins).length + (i + 1)) (j - (i + 1)) 0 w w' := by
  have h0 := at_rest hs
  have e : List.replicate j (41 : UInt8) = List.replicate i 41 ++ 41 :: List.replicate (j - i - 1) 41 := by
    rw [← List.replicate_succ, List.replicate_append_replicate, show i + (j - i - 1 + 1) = j from by omega]
  rw [e] at h0
  have ha := h0.tail
  rw [List.length_replicate] at ha
  obtain ⟨r1, r2, r3⟩ := close_read (j := j - i) ha (by omega)
  obtain ⟨hlt, _⟩ := ha.lt
  have := rclose_any b s ((encs ins).length + i) (j - i) 0 w h (by omega) (by omega) (by unfold maxLen; omega)
  rw [r1, r2, r3] at this
  rw [show (encs ins).length + (i + 1) = (encs ins).length + i + 1 from by omega, show j - (i + 1) = j - i - 1 from by omega]
  exact this
end
end Go.Proofs.YtjlkdglbnfifeaaGreatDoor.Pk

namespace Go.Proofs.YtjlkdglbnfifeaaGreatDoor.Pk
open Go.RowKit

theorem sk_int {s : ByteArray} {i j f : Nat} {n : Int} {R : List UInt8} (h : At s i (intL n ++ R)) (h0 : -9223372036854775808 ≤ n) (h1 : n ≤ 9223372036854775807) : skP s (f + 1) false (i, j, 0) = (i + (intL n).length, j, 0) := by
  have ha : At s i (105 :: (Lib.itoa n ++ 59 :: R)) := by simpa [intL] using h
  have hs : stB s i 105 = true := by rw [At.stB ha]; rfl
  have e := int_read h h0 h1
  rw [skP]
  simp only
  rw [if_pos hs, e]
theorem sk_text {s t : ByteArray} {i j f : Nat} {R : List UInt8} (h : At s i (textL t.data.toList ++ R)) (hz : t.size ≤ 100000) : skP s (f + 1) false (i, j, 0) = (i + (textL t.data.toList).length, j, 0) := by
  have hL : textL t.data.toList = Lib.decDigits t.size ++ 58 :: t.data.toList := by
    have e : t.data.toList.length = t.size := by simp
    unfold textL; rw [e, Lib.itoa_nonneg]; simp
  obtain ⟨d, l, e, hd, _⟩ := decDigits_head t.size
  have h3 : At s i (UInt8.ofNat (48 + d) :: (l ++ 58 :: t.data.toList ++ R)) := by rw [hL, e] at h; simpa using h
  have hs1 : ¬ stB s i 105 = true := by rw [At.stB h3, digit_nat hd]; simp; omega
  have hs2 : ¬ stB s i 40 = true := by rw [At.stB h3, digit_nat hd]; simp; omega
  have hle : t.size ≤ s.size := by
    have h4 := h.len (by rw [hL]; simp)
    rw [hL] at h4
    simp at h4; omega
  have er := text_read h hle hz
  rw [skP]
  simp only
  rw [if_neg hs1, if_neg hs2, er]
theorem encs_snoc1 (l : List Th) (t : Th) : encs (l ++ [t]) = encs l ++ t.enc := by simp [encs]
/-- Numbers and texts. -/
def Plain (l : List Th) : Prop := ∀ t ∈ l, (t.k = 1 ∨ t.k = 2) ∧ t.small
theorem Plain.dep {l : List Th} (h : Plain l) : dep l = 0 := by
  induction l with
  | nil => rfl
  | cons t l ih =>
    have h1 := (h t (by simp)).1
    have h2 := ih (fun u hu => h u (by simp [hu]))
    have h3 : t.dlt = 0 := by unfold Th.dlt; rw [if_neg (by omega), if_neg (by omega)]
    unfold Proofs.YtjlkdglbnfifeaaGreatDoor.Pk.dep at h2 ⊢
    simp [h3, h2]
theorem Plain.good {l : List Th} (h : Plain l) : Good l :=
  ⟨fun t ht => ⟨by have := (h t ht).1; omega, by have := (h t ht).1; omega, (h t ht).2⟩, fun m _ => by
    rw [Plain.dep (fun t ht => h t (List.mem_of_mem_take ht))]; omega⟩
theorem Plain.snoc {l : List Th} {t : Th} (h : Plain l) (h1 : t.k = 1 ∨ t.k = 2) (h2 : t.small) : Plain (l ++ [t]) := fun u hu => by
  rcases List.mem_append.1 hu with hu | hu
  · exact h u hu
  · obtain rfl : u = t := by simpa using hu
    exact ⟨h1, h2⟩
theorem rd_skip {w : World} {b m : Nat} {s : ByteArray} {ins : List Th} {R : List UInt8} (h : Rd w b s (posM ins m) (depM ins m) 0) (hs : s.data.toList = encs ins ++ R) (hp : Plain ins) (hm : m < ins.length) (hz : s.size ≤ 100000) :
    Calls Tryz.prog 32 #[.pointer (some ⟨b, 0, none⟩)] w fun e w' => e = .returned (.tuple #[]) ∧ RdPost b s (posM ins (m + 1)) (depM ins (m + 1)) 0 w w' := by
  have ha := at_thing hs hm
  have hps := posM_succ hm
  have hd := depM_succ hp.good hm
  obtain ⟨hk, hsm⟩ := hp _ (List.getElem_mem hm)
  have hdl : (ins[m]).dlt = 0 := by unfold Th.dlt; rw [if_neg (by omega), if_neg (by omega)]
  have hd' : depM ins (m + 1) = depM ins m := by omega
  have hd0 : depM ins m = 0 := by unfold depM; rw [Plain.dep (fun t ht => hp t (List.mem_of_mem_take ht))]; rfl
  have e : skP s (2 * s.size + 2) false (posM ins m, depM ins m, 0) = (posM ins (m + 1), depM ins m, 0) := by
    rw [hps]
    rcases hk with hk | hk
    · have e1 : ins[m].enc = intL ins[m].n := by unfold Th.enc; rw [if_pos hk]
      rw [e1] at ha ⊢
      exact sk_int (f := 2 * s.size + 1) ha hsm.1 hsm.2.1
    · have e1 : ins[m].enc = textL ins[m].s.data.toList := by unfold Th.enc; rw [if_neg (by omega), if_pos hk]
      rw [e1] at ha ⊢
      exact sk_text (f := 2 * s.size + 1) ha (by have := hsm.2.2; omega)
  have := skip_all s hz (2 * s.size + 2) (2 * s.size + 2) (Nat.le_refl _) b (posM ins m) (depM ins m) 0 w h (posM_le hs (by omega)) (by omega) (by unfold needS; rw [if_neg (by omega)]; omega)
  rw [e] at this
  rw [hd']
  exact this
end Go.Proofs.YtjlkdglbnfifeaaGreatDoor.Pk

namespace Go.Proofs.YtjlkdglbnfifeaaGreatDoor.Pk
open Go.RowKit

/-- Bytes that Skip takes wherever they stand. -/
def Takes (P : List UInt8) : Prop := P ≠ [] ∧ ∀ (s : ByteArray) (i : Nat) (R : List UInt8), At s i (P ++ R) → s.size ≤ 100000 → skS s (i, 0, 0) = (i + P.length, 0, 0)
def ba (P : List UInt8) : ByteArray := ⟨P.toArray⟩
theorem ba_data (P : List UInt8) : (ba P).data.toList = P := by simp [ba]
/-- Pieces with their places. -/
def offs : Nat → List (List UInt8) → List (Nat × ByteArray)
  | _, [] => []
  | i, P :: l => (i, ba P) :: offs (i + P.length) l
theorem offs_append (l m : List (List UInt8)) : ∀ i, offs i (l ++ m) = offs i l ++ offs (i + l.flatten.length) m := by
  induction l with
  | nil => intro i; simp [offs]
  | cons P l ih => intro i; simp only [List.cons_append, offs, ih, List.flatten_cons, List.length_append, Nat.add_assoc]
theorem offs_snd (l : List (List UInt8)) : ∀ i, (offs i l).map (·.2) = l.map ba := by
  induction l with
  | nil => intro i; rfl
  | cons P l ih => intro i; simp [offs, ih]
theorem offs_len (l : List (List UInt8)) : ∀ i, (offs i l).length = l.length := by
  induction l with
  | nil => intro i; rfl
  | cons P l ih => intro i; simp [offs, ih]
theorem offs_get (l : List (List UInt8)) : ∀ i n (h : n < l.length), (offs i l)[n]? = some (i + (l.take n).flatten.length, ba l[n]) := by
  induction l with
  | nil => intro i n h; simp at h
  | cons P l ih =>
    intro i n h
    cases n with
    | zero => simp [offs]
    | succ n =>
      have h' : n < l.length := by simpa using h
      simp only [offs, List.getElem?_cons_succ, ih (i + P.length) n h', List.take_succ_cons, List.flatten_cons, List.length_append, Nat.add_assoc, List.getElem_cons_succ]
theorem take_flat_succ (R : List (List UInt8)) (n : Nat) (h : n < R.length) : (R.take (n + 1)).flatten = (R.take n).flatten ++ R[n] := by
  rw [List.take_succ_eq_append_getElem h, List.flatten_append]
  simp
theorem take_flat_le (R : List (List UInt8)) (n : Nat) : (R.take n).flatten.length ≤ R.flatten.length := by
  have h := congrArg (fun l : List (List UInt8) => l.flatten.length) (List.take_append_drop n R)
  simp only [List.flatten_append, List.length_append] at h
  omega
theorem piece_le (R : List (List UInt8)) (n : Nat) (h : n < R.length) : R[n].length ≤ R.flatten.length := by
  have h1 := congrArg List.length (take_flat_succ R n h)
  rw [List.length_append] at h1
  have h2 := take_flat_le R (n + 1)
  omega
theorem take_next {α : Type} {E : List α} {n : Nat} {y : α} (h : E[n]? = some y) : E.take (n + 1) = E.take n ++ [y] := by
  obtain ⟨hn, e⟩ := List.getElem?_eq_some_iff.1 h
  rw [List.take_succ_eq_append_getElem hn, e]
theorem take_not {α : Type} {E : List α} {n : Nat} {x : α} (hn : n ≤ E.length) (h : E[n]? ≠ some x) : ¬ E.take n ++ [x] <+: E := by
  rintro ⟨r, hr⟩
  apply h
  rw [← hr, List.append_assoc, List.getElem?_append_right (by simp; omega)]
  simp [Nat.min_eq_left hn]
theorem at_extract {s : ByteArray} {i : Nat} {P R : List UInt8} (h : At s i (P ++ R)) : s.extract i (i + P.length) = ba P := by
  refine WideShapes.bytes_inj ?_
  rw [Lib.extract_data, ba_data]
  unfold At at h
  rw [h, Nat.add_sub_cancel_left, List.take_left]
/-- The things of pieces that Skip takes are these, with their places; up to what it doesn't take. -/
theorem thL_pieces (s : ByteArray) (hz : s.size ≤ 100000) (R : List UInt8) : ∀ (l : List (List UInt8)) (i f : Nat), (∀ P ∈ l, Takes P) → At s i (l.flatten ++ R) → s.size - i < f →
    thL s f i 0 = offs i l ++ thL s (f - l.length) (i + l.flatten.length) 0 := by
  intro l
  induction l with
  | nil => intro i f _ _ _; simp [offs]
  | cons P l ih =>
    intro i f hT hA hf
    obtain ⟨hne, hP⟩ := hT P (by simp)
    have hA1 : At s i (P ++ (l.flatten ++ R)) := by simpa using hA
    have e := hP s i _ hA1 hz
    have hle := hA1.len hne
    have hpos : 0 < P.length := List.length_pos_iff.2 hne
    obtain ⟨f', rfl⟩ : ∃ f', f = f' + 1 := ⟨f - 1, by omega⟩
    rw [thL_more (by omega) (by rw [e]), e]
    simp only
    rw [ih (i + P.length) f' (fun Q hQ => hT Q (by simp [hQ])) hA1.tail (by omega), at_extract hA1]
    simp only [offs, List.cons_append, List.flatten_cons, List.length_append, List.length_cons, Nat.add_assoc, Nat.add_sub_add_right]
theorem things_pieces (s : ByteArray) (l : List (List UInt8)) (hz : s.size ≤ 100000) (hT : ∀ P ∈ l, Takes P) (hs : s.data.toList = l.flatten) : things s = offs 0 l := by
  have hA : At s 0 (l.flatten ++ []) := by unfold At; simp [hs]
  have hl : l.flatten.length = s.size := by rw [← hs]; simp
  unfold things
  rw [thL_pieces s hz [] l 0 (s.size + 1) hT hA (by omega), thL_stop (by rw [hl]; simp), List.append_nil]

/-- A number or a text in a list of its own. -/
def wrap (t : Th) : List UInt8 := 40 :: (t.enc ++ [41])
theorem skP_enc {s : ByteArray} {i j f : Nat} {t : Th} {R : List UInt8} (hk : t.k = 1 ∨ t.k = 2) (hsm : t.small) (h : At s i (t.enc ++ R)) : skP s (f + 1) false (i, j, 0) = (i + t.enc.length, j, 0) := by
  rcases hk with hk | hk
  · have e1 : t.enc = intL t.n := by unfold Th.enc; rw [if_pos hk]
    rw [e1] at h ⊢
    exact sk_int h hsm.1 hsm.2.1
  · have e1 : t.enc = textL t.s.data.toList := by unfold Th.enc; rw [if_neg (by omega), if_pos hk]
    rw [e1] at h ⊢
    exact sk_text h (by have := hsm.2.2; omega)
/-- Its first sign is none that ends a list. -/
theorem enc_head {t : Th} (hk : t.k = 1 ∨ t.k = 2) : ∃ c l, t.enc = c :: l ∧ c.toNat ≠ 41 := by
  rcases hk with hk | hk
  · exact ⟨105, _, by unfold Th.enc; rw [if_pos hk]; unfold intL; rfl, by decide⟩
  · obtain ⟨d, l, e, hd, _⟩ := decDigits_head t.s.data.toList.length
    refine ⟨UInt8.ofNat (48 + d), l ++ [58] ++ t.s.data.toList, ?_, by rw [digit_nat hd]; omega⟩
    unfold Th.enc
    rw [if_neg (by omega), if_pos hk]
    unfold textL
    rw [Lib.itoa_nonneg, e]
    simp
theorem takes_wrap {t : Th} (hk : t.k = 1 ∨ t.k = 2) (hsm : t.small) : Takes (wrap t) := by
  refine ⟨by simp [wrap], fun s i R hA hz => ?_⟩
  have h0 : At s i (40 :: (t.enc ++ (41 :: R))) := by simpa [wrap] using hA
  have h1 : At s (i + 1) (t.enc ++ (41 :: R)) := At.tail (l := [40]) h0
  have h2 : At s (i + 1 + t.enc.length) (41 :: R) := h1.tail
  obtain ⟨c, m, he, hc⟩ := enc_head hk
  have s1 : ¬ stB s i 105 = true := by rw [At.stB h0]; decide
  have s2 : stB s i 40 = true := by rw [At.stB h0]; rfl
  obtain ⟨o1, o2, o3⟩ := open_read (j := 0) h0 (by omega)
  obtain ⟨c1, c2, c3⟩ := close_read (j := 1) h2 (by omega)
  have h1' : At s (i + 1) (c :: (m ++ (41 :: R))) := by rw [he] at h1; exact h1
  have m1 : moreB s (i + 1) 0 = true := by
    obtain ⟨hi, _⟩ := h1'.lt
    have e := At.stB (c := 41) h1'
    unfold moreB
    simp [hi, e, hc]
  have m2 : moreB s (i + 1 + t.enc.length) 0 = false := by
    have e := At.stB (c := 41) h2
    unfold moreB
    simp [e]
  have hsz : 4 ≤ 2 * s.size + 2 := by
    obtain ⟨hi, _⟩ := h0.lt
    omega
  obtain ⟨f, hf⟩ : ∃ f, 2 * s.size + 2 = f + 1 + 1 + 1 + 1 := ⟨2 * s.size + 2 - 4, by omega⟩
  unfold skS
  rw [hf, skP]
  simp only
  rw [if_neg s1, if_pos s2, o1, o2, o3, skP]
  simp only
  rw [if_pos m1, skP_enc hk hsm h1, skP]
  simp only
  rw [if_neg (by rw [m2]; decide)]
  rw [show (0 : Nat) + 1 = 1 from rfl, c1, c2, c3]
  simp [wrap]; omega
/-- The pieces of things: numbers and texts, each in a list of its own. -/
def isPlain (t : Th) : Bool := decide (t.k = 1) || decide (t.k = 2)
def wpc (l : List Th) : List (List UInt8) := (l.filter isPlain).map wrap
theorem wpc_takes {l : List Th} (h : ∀ t ∈ l, t.small) : ∀ P ∈ wpc l, Takes P := by
  intro P hP
  obtain ⟨t, ht, rfl⟩ := List.mem_map.1 hP
  obtain ⟨h1, h2⟩ := List.mem_filter.1 ht
  exact takes_wrap (by simpa [isPlain] using h2) (h t h1)
theorem wpc_snoc_yes {l : List Th} {k : Nat} (h : k < l.length) (hp : l[k].k = 1 ∨ l[k].k = 2) : (wpc (l.take (k + 1))).flatten = (wpc (l.take k)).flatten ++ (40 :: (l[k].enc ++ [41])) := by
  rw [List.take_succ_eq_append_getElem h]
  unfold wpc
  rw [List.filter_append]
  have e : List.filter isPlain [l[k]] = [l[k]] := by simp [isPlain, hp]
  rw [e]
  simp [wrap]
theorem wpc_snoc_no {l : List Th} {k : Nat} (h : k < l.length) (hp : ¬ (l[k].k = 1 ∨ l[k].k = 2)) : wpc (l.take (k + 1)) = wpc (l.take k) := by
  rw [List.take_succ_eq_append_getElem h]
  unfold wpc
  rw [List.filter_append]
  have e : List.filter isPlain [l[k]] = [] := by
    have : isPlain l[k] = false := by
      unfold isPlain
      rw [Bool.or_eq_false_iff]
      exact ⟨by simpa using fun e => hp (Or.inl e), by simpa using fun e => hp (Or.inr e)⟩
    simp [this]
  rw [e]
  simp
theorem wpc_len {l : List Th} (h : ∀ t ∈ l, t.small) (k : Nat) : (wpc (l.take k)).flatten.length ≤ 302 * l.length := by
  have h2 : ∀ m : List Th, (∀ t ∈ m, t.small) → (wpc m).flatten.length ≤ 302 * m.length := by
    intro m
    induction m with
    | nil => intro _; simp [wpc]
    | cons t m ih =>
      intro hm
      have i1 := ih (fun u hu => hm u (by simp [hu]))
      have i2 := enc_len (hm t (by simp))
      unfold wpc at i1 ⊢
      rw [List.filter_cons]
      split
      · have hw : (wrap t).length = t.enc.length + 2 := by simp [wrap]
        simp only [List.map_cons, List.flatten_cons, List.length_append, List.length_cons]
        omega
      · simp only [List.length_cons]; omega
  refine Nat.le_trans (h2 _ (fun t ht => h t (List.mem_of_mem_take ht))) ?_
  have : (l.take k).length ≤ l.length := by simp; omega
  omega
theorem wpc_count (l : List Th) : (wpc l).length ≤ l.length := by unfold wpc; rw [List.length_map]; exact List.length_filter_le _ _
end Go.Proofs.YtjlkdglbnfifeaaGreatDoor.Pk
