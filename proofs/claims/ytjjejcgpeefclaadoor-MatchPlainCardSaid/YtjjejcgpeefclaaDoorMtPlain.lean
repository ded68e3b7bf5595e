/-
  THE WALK of MatchPlain: letters are met where the text has them.
-/
import Derived.Test.YtjjejcgpeefclaaDoorMtWhole
import Derived.Test.YtjjejcgpeefclaaDoorMtQu
import Derived.Lib.SlicesS
namespace Go.Proofs.YtjjejcgpeefclaaDoor
open Go.RowKit

/-- The text has the letters at a place. -/
def PlAt (t s : ByteArray) (i : Nat) : Prop := i + s.size ≤ t.size ∧ t.extract i (i + s.size) = s
theorem lead_quT {g : W4 → Nat → Prop} {n i j : Nat} : ∀ (l : List UInt8), Lead g n (quT l) i j ↔ CatL g n (l.map oneT) i j
  | [] => by
    show Lead g n (.mk 0 W4.zero []) i j ↔ CatL g n [] i j
    unfold Lead
    rw [if_neg (by decide), if_neg (by decide), if_neg (by decide), if_neg (by decide), if_neg (by decide), if_neg (by decide), if_neg (by decide)]
  | [c] => by
    show Lead g n (oneT c) i j ↔ CatL g n [oneT c] i j
    rw [catL_one]
  | c :: d :: l => by
    show Lead g n (.mk 2 W4.zero ((c :: d :: l).map oneT)) i j ↔ _
    rw [lead_cat]
theorem take_cons {L : List UInt8} {i n : Nat} {c : UInt8} {l : List UInt8} : (L.drop i).take (n + 1) = c :: l ↔ L[i]? = some c ∧ (L.drop (i + 1)).take n = l := by
  have e1 : L[i]? = (L.drop i)[0]? := by rw [List.getElem?_drop, Nat.add_zero]
  have e2 : L.drop (i + 1) = (L.drop i).drop 1 := by rw [List.drop_drop]
  rw [e1, e2]
  cases L.drop i with
  | nil => simp
  | cons x r => simp
theorem catL_ones {t : ByteArray} : ∀ (l : List UInt8) (i j : Nat), CatL (gS t) t.size (l.map oneT) i j ↔ j = i + l.length ∧ (t.data.toList.drop i).take l.length = l
  | [], i, j => by
    show CatL _ _ [] i j ↔ _
    rw [catL_nil]
    simp; omega
  | c :: l, i, j => by
    show CatL _ _ (oneT c :: l.map oneT) i j ↔ _
    rw [catL_cons, List.length_cons, take_cons]
    constructor
    · rintro ⟨k, h1, h2⟩
      unfold oneT at h1
      rw [lead_one, gS_one] at h1
      obtain ⟨h1, h3, rfl⟩ := h1
      rw [catL_ones l] at h2
      exact ⟨by omega, h1, h2.2⟩
    · rintro ⟨rfl, h1, h2⟩
      refine ⟨i + 1, ?_, (catL_ones l _ _).2 ⟨by omega, h2⟩⟩
      unfold oneT
      rw [lead_one, gS_one]
      have hi : i < t.size := by
        have := (List.getElem?_eq_some_iff.1 h1).1
        simpa using this
      exact ⟨h1, hi, rfl⟩
theorem met_quT {t s : ByteArray} {i j : Nat} : Met t (quT s.data.toList) i j ↔ j = i + s.size ∧ PlAt t s i := by
  have hl : s.data.toList.length = s.size := by simp
  unfold Met PlAt
  rw [lead_quT, catL_ones, hl]
  have he : i + s.size ≤ t.size → (t.extract i (i + s.size) = s ↔ (t.data.toList.drop i).take s.size = s.data.toList) := fun hle => by
    have e : (t.extract i (i + s.size)).data.toList = (t.data.toList.drop i).take s.size := by
      simp
    rw [← e]
    constructor
    · intro h; rw [h]
    · intro h; exact ByteArray.ext (Array.toList_inj.1 h)
  constructor
  · rintro ⟨h1, rfl, h2⟩
    exact ⟨rfl, h1, (he h1).2 h2⟩
  · rintro ⟨rfl, h1, h2⟩
    exact ⟨h1, rfl, (he h1).1 h2⟩
/-- The first place behind n at which the text has the letters. -/
def PlIs (t s : ByteArray) (n : Int) : Option Nat → Prop
  | none => ∀ k : Nat, n < k → ¬ PlAt t s k
  | some a => n < a ∧ PlAt t s a ∧ ∀ k : Nat, n < k → k < a → ¬ PlAt t s k
def plV : Option Nat → Value
  | none => .int .i64 (-1)
  | some a => .int .i64 (a : Int)
theorem PlIs.start (t s : ByteArray) : PlIs t s ((t.size : Int) - s.size) none := fun k h h2 => by have := h2.1; omega
theorem PlIs.no {t s : ByteArray} {k : Nat} {r : Option Nat} (h : PlIs t s k r) (hn : ¬ PlAt t s k) : PlIs t s ((k : Int) - 1) r := by
  cases r with
  | none =>
    intro m hm
    by_cases e : m = k
    · subst e; exact hn
    · exact h m (by omega)
  | some a =>
    refine ⟨by have := h.1; omega, h.2.1, ?_⟩
    intro m hm hma
    by_cases e : m = k
    · subst e; exact hn
    · exact h.2.2 m (by omega) hma
theorem PlIs.yes {t s : ByteArray} {k : Nat} (hn : PlAt t s k) : PlIs t s ((k : Int) - 1) (some k) := ⟨by omega, hn, fun m h1 h2 => by omega⟩
theorem PlIs.found {t s : ByteArray} {n : Int} (hn : n < 0) {r : Option Nat} {q : Option (Nat × Nat)} (h : PlIs t s n r) (h2 : FndIs t (quT s.data.toList) 0 q) : q = r.map fun a => (a, a + s.size) := by
  cases q with
  | none => cases r with
    | none => rfl
    | some a => exact (h2 a (Nat.zero_le _) _ (met_quT.2 ⟨rfl, h.2.1⟩)).elim
  | some ij =>
    obtain ⟨i, j⟩ := ij
    obtain ⟨_, h3, _, h5⟩ := h2
    obtain ⟨rfl, h4⟩ := met_quT.1 h3
    cases r with
    | none => exact (h i (by omega) h4).elim
    | some a =>
      have : a = i := by
        rcases Nat.lt_trichotomy a i with h6 | h6 | h6
        · exact (h5 a (Nat.zero_le _) h6 _ (met_quT.2 ⟨rfl, h.2.1⟩)).elim
        · exact h6
        · exact (h.2.2 i (by omega) h6 h4).elim
      subst this
      rfl
/-- The first k bytes are letters. -/
def LoU (s : ByteArray) (k : Nat) : Prop := ∀ j (h : j < s.size), j < k → 97 ≤ s[j].toNat ∧ s[j].toNat ≤ 122
theorem LoU.next {s : ByteArray} {k : Nat} (h : LoU s k) (hk : k < s.size) (h1 : 97 ≤ s[k].toNat) (h2 : s[k].toNat ≤ 122) : LoU s (k + 1) := fun j hj hlt => by
  by_cases e : j = k
  · subst e; exact ⟨h1, h2⟩
  · exact h j hj (by omega)
theorem quL_low : ∀ {l : List UInt8}, (∀ c ∈ l, 97 ≤ c.toNat ∧ c.toNat ≤ 122) → quL l = l
  | [], _ => rfl
  | c :: l, h => by
    have hc := h c (by simp)
    have hw : wordB c = true := by
      unfold wordB letB
      simp [UInt8.le_iff_toNat_le]; omega
    rw [quL_cons, quL_low fun d hd => h d (by simp [hd])]
    unfold quB
    rw [if_pos hw]; rfl
theorem LoU.top {s : ByteArray} (h : LoU s s.size) : topR withW notW orW s.data.toList = .ok (quT s.data.toList, []) := by
  have h2 := top_qu s.data.toList
  rwa [quL_low fun c hc => by
    obtain ⟨j, hj, rfl⟩ := List.getElem_of_mem hc
    have hj2 : j < s.size := by simpa using hj
    exact h j hj2 hj2] at h2
set_option maxHeartbeats 4000000 in
set_option maxRecDepth 100000 in
theorem plain_walk (s0 t0 : ByteArray) (hs : s0.size ≤ maxLen) (ht : t0.size ≤ maxLen) (w : World) (hdz : Dz w) :
    Calls Tryd.prog 7 #[.string s0, .string t0] w fun e w' => e = .returned (.bool true) ∧ Below w.heap.size w w' := by
  have CS := Lib.hid fun Z => cut_any s0 20 Z hs (by omega)
  have CT := Lib.hid fun Z => cut_any t0 60 Z ht (by omega)
  have hss := cutB_size s0 20
  have hts := cutB_size t0 60
  generalize cutB s0 20 = s at *
  generalize cutB t0 60 = t at *
  have HDZ := Lib.hid hdz
  have CAW := Lib.hid fun Z (hz : Dz Z) => mawake_any Z hz
  clear hs ht hdz
  go_enter Tryd.func7, Tryd.ntmps7
  go_wp2_with fail
  refine (CS.out _).mono ?_
  rintro e w1 ⟨rfl, rfl⟩
  go_wp2_with fail
  refine (CT.out _).mono ?_
  rintro e w1 ⟨rfl, rfl⟩
  clear CS CT
  go_wp2_with fail
  go_loopw [5] (fun iv wr => ∃ k : Nat, k ≤ s.size ∧ iv = .int .i64 (k : Int) ∧ Hid (LoU s k) ∧ w = wr) (fun iv _ => s.size - (intOf iv).toNat)
  case atStart => exact ⟨0, Nat.zero_le _, rfl, Lib.hid (fun j _ h => by omega), rfl⟩
  case round =>
    obtain ⟨k, hk, rfl, HN, rfl⟩ := hrel
    by_cases hlt : k < s.size
    · obtain ⟨c, hc⟩ : ∃ c, s[k] = c := ⟨_, rfl⟩
      have hcb := c.toNat_lt
      have CAW3 := Lib.hid (CAW.out w HDZ.out)
      by_cases h97 : c.toNat < 97
      · have e97 : (c.toNat : Int) < 97 := by omega
        go_wp2_with fail
        refine CAW3.out.mono ?_
        rintro e w5 ⟨rfl, hb5⟩
        have HB5 := Lib.hid hb5
        clear hb5
        go_wp2_with fail
        go_ret
        exact ⟨rfl, HB5.out⟩
      · have e97 : ¬ (c.toNat : Int) < 97 := by omega
        by_cases h122 : 122 < c.toNat
        · have e122 : 122 < (c.toNat : Int) := by omega
          go_wp2_with fail
          refine CAW3.out.mono ?_
          rintro e w5 ⟨rfl, hb5⟩
          have HB5 := Lib.hid hb5
          clear hb5
          go_wp2_with fail
          go_ret
          exact ⟨rfl, HB5.out⟩
        · have e122 : ¬ 122 < (c.toNat : Int) := by omega
          have HN2 := Lib.hid (HN.out.next hlt (by rw [hc]; omega) (by rw [hc]; omega))
          clear CAW3 HN
          go_wp2_with fail
          go_roundw
          case rel => exact ⟨k + 1, by omega, by go_num, HN2, trivial⟩
          case measure => simp [intOf]; omega
    · have hki : ¬ (k : Int) < (s.size : Int) := by omega
      obtain rfl : k = s.size := by omega
      have HTOP := Lib.hid HN.out.top
      have CO1 := Lib.hid (mof_any s (by omega) w HDZ.out)
      clear HN hk hlt
      go_wp2_with fail
      refine CO1.out.mono ?_
      rintro e w2 ⟨hb2, h2⟩
      have HB2 := Lib.hid hb2
      have HZ2 := Lib.hid (HDZ.out.next hb2)
      clear CO1
      rcases h2 with ⟨t1, r1, d1, ht1, rfl, hpg1⟩ | ⟨n1, k1, ht1, _⟩
      · have he1 : t1 = quT s.data.toList := by
          rw [HTOP.out] at ht1
          injection ht1 with h
          exact (Prod.mk.inj h).1.symm
        subst he1
        have HPG1 := Lib.hid hpg1
        clear hb2 hpg1 ht1 HTOP
        go_wp2_with fail
        go_loopw [9, 10] (fun av iv wr => ∃ (n : Int) (r : Option Nat), n ≤ (t.size : Int) - s.size ∧ -21 ≤ n ∧ av = plV r ∧ iv = .int .i64 n ∧ Hid (PlIs t s n r) ∧ w2 = wr) (fun _ iv _ => (intOf iv + 1).toNat)
        case atStart => exact ⟨(t.size : Int) - s.size, none, Int.le_refl _, by omega, rfl, by go_num, Lib.hid (PlIs.start t s), rfl⟩
        case round =>
          obtain ⟨n, r, hn1, hn2, rfl, rfl, HP, rfl⟩ := hrel
          by_cases hn : 0 ≤ n
          · obtain ⟨k, rfl⟩ : ∃ k : Nat, n = (k : Int) := ⟨n.toNat, by omega⟩
            have hk1 : (k : Int) ≤ (k : Int) + (s.size : Int) := by omega
            have hk2 : (k : Int) + (s.size : Int) ≤ (t.size : Int) := by omega
            by_cases heq : t.extract k (k + s.size) = s
            · have HY := Lib.hid (PlIs.yes (t := t) (s := s) (k := k) ⟨by omega, heq⟩)
              have heb : ((t.extract k (k + s.size)).toList == s.toList) = true := (Lib.bytes_beq_iff _ _).2 heq
              clear heq
              go_wp2_with fail
              go_roundw
              case rel => exact ⟨(k : Int) - 1, some k, by omega, by omega, rfl, by go_num, HY, trivial⟩
              case measure => simp only [intOf]; omega
            · have HY := Lib.hid (HP.out.no fun h => heq h.2)
              have heb : ((t.extract k (k + s.size)).toList == s.toList) = false := (Lib.bytes_beq_false_iff _ _).2 heq
              clear heq
              go_wp2_with fail
              go_roundw
              case rel => exact ⟨(k : Int) - 1, r, by omega, by omega, rfl, by go_num, HY, trivial⟩
              case measure => simp only [intOf]; omega
          · have CF := Lib.hid (mFind_any t (by omega) 0 (by omega) HPG1.out)
            go_wp2_with fail
            refine CF.out.mono ?_
            rintro e w4 ⟨q, rfl, hr, hb4⟩
            have HB4 := Lib.hid (HB2.out.trans (hb4.mono HB2.out.size))
            have HZ4 := Lib.hid (HZ2.out.next hb4)
            have CAW4 := Lib.hid (CAW.out w4 HZ4.out)
            have hq : q = r.map fun a => (a, a + s.size) := by
              unfold FdIs at hr
              rw [if_pos (by omega)] at hr
              exact HP.out.found (by omega) hr
            subst hq
            have hr9 : ∀ a, r = some a → a + s.size ≤ 60 := fun a ha => by
              subst ha
              have := HP.out.2.1.1
              omega
            clear hb4 hr CF HP HPG1
            cases r with
            | none =>
              simp only [Option.map_none, fndV, plV]
              go_wp2_with fail
              refine CAW4.out.mono ?_
              rintro e w5 ⟨rfl, hb5⟩
              have HB5 := Lib.hid (HB4.out.trans (hb5.mono HB4.out.size))
              clear hb5
              go_wp2_with fail
              go_ret
              exact ⟨rfl, HB5.out⟩
            | some a =>
              simp only [Option.map_some, fndV, plV]
              have ha0 : 0 ≤ (a : Int) := by omega
              have ha9 := hr9 a rfl
              have hw9 : wrap64 ((a : Int) + (s.size : Int)) = (a : Int) + (s.size : Int) := by unfold wrap64; omega
              have hb9 : ((a : Int) + (s.size : Int) == (a : Int) + (s.size : Int)) = true := by simp
              clear hr9
              go_wp2_with fail
              refine CAW4.out.mono ?_
              rintro e w5 ⟨rfl, hb5⟩
              have HB5 := Lib.hid (HB4.out.trans (hb5.mono HB4.out.size))
              clear hb5
              go_wp2_with fail
              go_ret
              exact ⟨rfl, HB5.out⟩
      · rw [HTOP.out] at ht1; cases ht1
end Go.Proofs.YtjjejcgpeefclaaDoor
