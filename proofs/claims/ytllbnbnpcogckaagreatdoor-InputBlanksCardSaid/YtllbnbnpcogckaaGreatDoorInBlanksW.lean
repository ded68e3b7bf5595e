/-
  THE WALK of the law InputBlanks: whatever the text and the number, it returns true and writes to nothing that was there.
-/
import Derived.Test.YtllbnbnpcogckaaGreatDoorInM3
import Derived.Deep.QuietTactic
import Derived.BigQuiet
namespace Go.Proofs.YtllbnbnpcogckaaGreatDoor
open Go.RowKit

/-- Two rows of the same texts lie here. -/
structure TwoR (p q : Option Addr) (c d : Nat) (l : List ByteArray) (w : World) : Prop where
  a : w.ownsRow 0 9 1 (.slice p l.length c) l.length (l.map Value.string)
  b : w.ownsRow 0 9 1 (.slice q l.length d) l.length (l.map Value.string)
theorem TwoR.next {p q : Option Addr} {c d : Nat} {l : List ByteArray} {w w1 : World} (h : TwoR p q c d l w) (hb : Below w.heap.size w w1) : TwoR p q c d l w1 := ⟨own_next h.a hb, own_next h.b hb⟩
theorem own_some {w : World} {B : Nat} {e : TypeId} {z n c : Nat} {p : Option Addr} {xs : List Value} (h : w.ownsRow B e z (.slice p n c) n xs) (hn : 0 < n) : ∃ g, p = some ⟨g, 0, none⟩ := by
  rcases h.2 with ⟨h1, h0⟩ | ⟨g, cap, cur, h1, _⟩
  · omega
  · injection h1 with h1 _ _; exact ⟨g, h1⟩
set_option maxHeartbeats 2000000 in
theorem same_any (p q : Option Addr) (c d : Nat) (l : List ByteArray) (w : World) (h : TwoR p q c d l w) (hl : l.length ≤ 1000) :
    Calls Tryz.prog 18 #[.slice p l.length c, .slice q l.length d] w fun e w' => e = .returned (.bool true) ∧ Below w.heap.size w w' := by
  have HI := Lib.hid (And.intro h (Below.refl w.heap.size w))
  clear h
  go_enter Tryz.func18, Tryz.ntmps18
  go_wp2_with fail
  go_loopw [13] (fun iv wr => ∃ k : Nat, k ≤ l.length ∧ iv = .int .i64 k ∧ Hid (TwoR p q c d l wr ∧ Below w.heap.size w wr)) (fun iv _ => l.length - (intOf iv).toNat)
  case atStart => exact ⟨0, Nat.zero_le _, rfl, HI⟩
  case round =>
    obtain ⟨k, hk, rfl, HX⟩ := hrel
    clear HI
    by_cases hlt : k < l.length
    · have hki : (k : Int) < (l.length : Int) := by omega
      obtain ⟨g1, rfl⟩ := own_some HX.out.1.a (by omega)
      obtain ⟨g2, rfl⟩ := own_some HX.out.1.b (by omega)
      have c0 := own_at HX.out.1.a k hlt hlt
      have c1 := own_at HX.out.1.b k hlt hlt
      generalize l[k] = x at *
      have HN : Hid (TwoR (some ⟨g1, 0, none⟩) (some ⟨g2, 0, none⟩) c d l wr.drew ∧ Below w.heap.size w wr.drew) := Lib.hid ⟨HX.out.1.next ((Below.refl _ _).drew), HX.out.2.drew⟩
      clear HX
      go_wp2_with fail
      go_region
      go_wp2_with fail
      go_roundw
      case rel => exact ⟨k + 1, by omega, by go_num, HN⟩
      case measure => simp [intOf]; omega
    · have hki : ¬ (k : Int) < (l.length : Int) := by omega
      go_wp2_with fail
      go_ret
      exact ⟨rfl, HX.out.2⟩
theorem take_at (s : ByteArray) (i : Nat) (h : i < s.size) : s.data.toList.take (i + 1) = s.data.toList.take i ++ [s[i]] := by
  rw [List.take_succ_eq_append_getElem (by rw [ba_sz]; exact h)]; rfl
theorem ext_one (s : ByteArray) (i : Nat) (h : i < s.size) : (s.extract i (i + 1)).data.toList = [s[i]] := by
  rw [Lib.extract_data, show i + 1 - i = 1 by omega]
  have hl : i < s.data.toList.length := by rw [ba_sz]; exact h
  rw [List.drop_eq_getElem_cons hl]
  rfl
theorem pad_one (b : List UInt8) (c : UInt8) : padL b [c] = if c = 32 then c :: b else [c] := by
  rw [padL, padL, List.append_nil]
set_option maxHeartbeats 8000000 in
set_option maxRecDepth 100000 in
theorem blanks_in (s0 s : ByteArray) (n : Nat) (hn : n ≤ 5) (hsz : s.size ≤ 60) (w : World) (HG : Hid (Gi w))
    (AW : Hid (∀ W, Gi W → Calls Tryz.prog 10 #[] W fun e w' => e = .returned (.bool true) ∧ Below W.heap.size W w'))
    (C1 : Hid (∀ W, Calls Tryz.prog 8 #[.string s0, .int .i64 60] W fun e w' => e = .returned (.string s) ∧ W = w')) :
    Calls Tryz.prog 6 #[.string s0, .int .i64 (n : Int)] w fun e w' => e = .returned (.bool true) ∧ Below w.heap.size w w' := by
  have g1 : ¬ (n : Int) < 0 := by omega
  have g2 : ¬ (5 : Int) < (n : Int) := by omega
  have hfl := fields_len s ⟨#[32]⟩ rfl
  have C2 : Hid (∀ W, Gi W → Calls Tryz.prog 11 #[.string s, .string ⟨#[32]⟩, .bool false] W (CtPost (fieldsB s ⟨#[32]⟩) W)) := Lib.hid fun W G => isplit_any s ⟨#[32]⟩ W (by omega) rfl (by omega) G
  have C3 : Hid (∀ (t : ByteArray) (b : List UInt8), t.size ≤ 4000 → (∀ c ∈ b, ibk c = true) → t.data.toList = b ++ padL b s.data.toList ++ b → ∀ W, Gi W → Calls Tryz.prog 11 #[.string t, .string ⟨#[32]⟩, .bool false] W (CtPost (fieldsB s ⟨#[32]⟩) W)) := Lib.hid fun t b ht hb h W G => by
    have he := fields_same s t b hb h
    have := isplit_any t ⟨#[32]⟩ W ht rfl (by rw [he]; omega) G
    rw [he] at this; exact this
  generalize fieldsB s ⟨#[32]⟩ = l at *
  go_enter Tryz.func6, Tryz.ntmps6
  go_wp2_with fail
  refine (C1.out _).mono ?_
  rintro e w1 ⟨rfl, rfl⟩
  clear C1
  go_wp2_with fail
  go_loopw [5, 6] (fun bv iv wr => ∃ (k : Nat) (B : ByteArray), k ≤ n ∧ B.size ≤ 2 * k ∧ bv = .string B ∧ iv = .int .i64 (k : Int) ∧ wr = w ∧ Hid (∀ c ∈ B.data.toList, ibk c = true)) (fun _ iv _ => n - (intOf iv).toNat)
  case atStart => exact ⟨0, ⟨#[]⟩, Nat.zero_le _, by decide, rfl, rfl, by first | rfl | trivial, Lib.hid fun c hc => by cases hc⟩
  case round =>
    obtain ⟨k, B, hk, hB, rfl, rfl, rfl, HBL⟩ := hrel
    by_cases hlt : k < n
    · have hki : (k : Int) < (n : Int) := by omega
      have hcs : ¬ 9223372036854775807 < B.size + 2 := by omega
      have HBN : Hid (∀ c ∈ (B ++ (⟨#[32, 9]⟩ : ByteArray)).data.toList, ibk c = true) := Lib.hid fun c hc => by
        rw [ByteArray.data_append, Array.toList_append] at hc
        rcases List.mem_append.1 hc with h | h
        · exact HBL.out c h
        · simp at h
          rcases h with rfl | rfl <;> decide
      have hsn : (B ++ (⟨#[32, 9]⟩ : ByteArray)).size ≤ 2 * (k + 1) := by
        rw [ByteArray.size_append]
        have : (⟨#[32, 9]⟩ : ByteArray).size = 2 := rfl
        omega
      clear HBL
      go_wp2_with fail
      go_roundw
      case rel => exact ⟨k + 1, B ++ (⟨#[32, 9]⟩ : ByteArray), by omega, hsn, rfl, by go_num, by first | rfl | trivial, HBN⟩
      case measure => simp [intOf]; omega
    · have hki : ¬ (k : Int) < (n : Int) := by omega
      have hBs : B.size ≤ 10 := by omega
      clear hB
      go_wp2_with fail
      go_loopw [7, 8] (fun tv iv wx => ∃ (i : Nat) (T : ByteArray), i ≤ s.size ∧ T.size ≤ 10 + 11 * i ∧ tv = .string T ∧ iv = .int .i64 (i : Int) ∧ wx = wr ∧ Hid (T.data.toList = B.data.toList ++ padL B.data.toList (s.data.toList.take i))) (fun _ iv _ => s.size - (intOf iv).toNat)
      case atStart => exact ⟨0, B, Nat.zero_le _, by omega, rfl, rfl, by first | rfl | trivial, Lib.hid (by simp [padL])⟩
      case round =>
        obtain ⟨i, T, hi, hT, rfl, rfl, rfl, HT⟩ := hrel
        by_cases hil : i < s.size
        · have hii : (i : Int) < (s.size : Int) := by omega
          have hex : (s.extract i (i + 1)).size = 1 := by simp; omega
          have e1 := take_at s i hil
          have e2 := ext_one s i hil
          have hpd : padL B.data.toList (s.data.toList.take (i + 1)) = padL B.data.toList (s.data.toList.take i) ++ (if s[i] = 32 then s[i] :: B.data.toList else [s[i]]) := by
            rw [e1, padL_append, pad_one]
          have hcs1 : ¬ 9223372036854775807 < T.size + 1 := by omega
          have hcs2 : ¬ 9223372036854775807 < T.size + 1 + B.size := by omega
          have z0 : (i : Int) ≤ (i : Int) + 1 := by omega
          have z1 : (i : Int) + 1 ≤ (s.size : Int) := by omega
          obtain ⟨E, hE⟩ : ∃ E, s.extract i (i + 1) = E := ⟨_, rfl⟩
          rw [hE] at hex e2
          by_cases h32 : (s[i].toNat : Int) = 32
          · have h32' : s[i] = 32 := by
              apply UInt8.toNat_inj.1
              have : s[i].toNat = 32 := by omega
              rw [this]; rfl
            rw [if_pos h32'] at hpd
            have HTN : Hid ((T ++ E ++ B).data.toList = B.data.toList ++ padL B.data.toList (s.data.toList.take (i + 1))) := Lib.hid (by
              rw [ByteArray.data_append, ByteArray.data_append, Array.toList_append, Array.toList_append, HT.out, e2, hpd]; simp)
            have hsn : (T ++ E ++ B).size ≤ 10 + 11 * (i + 1) := by rw [ByteArray.size_append, ByteArray.size_append, hex]; omega
            clear e1 e2 hpd h32' HT
            go_wp2_with fail
            go_roundw
            case rel => exact ⟨i + 1, T ++ E ++ B, by omega, hsn, rfl, by go_num, by first | rfl | trivial, HTN⟩
            case measure => simp [intOf]; omega
          · have h32' : ¬ s[i] = 32 := fun e => h32 (by rw [e]; rfl)
            rw [if_neg h32'] at hpd
            have HTN : Hid ((T ++ E).data.toList = B.data.toList ++ padL B.data.toList (s.data.toList.take (i + 1))) := Lib.hid (by
              rw [ByteArray.data_append, Array.toList_append, HT.out, e2, hpd]; simp)
            have hsn : (T ++ E).size ≤ 10 + 11 * (i + 1) := by rw [ByteArray.size_append, hex]; omega
            clear e1 e2 hpd h32' HT
            go_wp2_with fail
            go_roundw
            case rel => exact ⟨i + 1, T ++ E, by omega, hsn, rfl, by go_num, by first | rfl | trivial, HTN⟩
            case measure => simp [intOf]; omega
        · have hii : ¬ (i : Int) < (s.size : Int) := by omega
          have hcs : ¬ 9223372036854775807 < T.size + B.size := by omega
          have hTB : (T ++ B).size ≤ 4000 := by rw [ByteArray.size_append]; omega
          have C4 := Lib.hid (C3.out (T ++ B) B.data.toList hTB HBL.out (by
            rw [ByteArray.data_append, Array.toList_append, HT.out, List.take_of_length_le (by rw [ba_sz]; omega)]))
          clear HT HBL C3 hTB
          go_wp2_with fail
          refine (C2.out _ HG.out).mono ?_
          rintro e w2 ⟨v2, rfl, ho2, hb2⟩
          obtain ⟨p2, c2, rfl⟩ := own_form ho2
          have HO2 := Lib.hid ho2
          have HB2 := Lib.hid hb2
          clear ho2 hb2 C2
          go_wp2_with fail
          refine (C4.out _ (HG.out.next HB2.out)).mono ?_
          rintro e w3 ⟨v3, rfl, ho3, hb3⟩
          obtain ⟨p3, c3, rfl⟩ := own_form ho3
          have HTR : Hid (TwoR p2 p3 c2 c3 l w3) := Lib.hid ⟨own_mono (own_next HO2.out hb3) (Nat.zero_le _), own_mono ho3 (Nat.zero_le _)⟩
          have HB3 := Lib.hid (HB2.out.trans (hb3.mono HB2.out.size))
          clear ho3 hb3 HO2 HB2 C4
          go_wp2_with fail
          refine (AW.out _ (HG.out.next HB3.out)).mono ?_
          rintro e w4 ⟨rfl, hb4⟩
          have HTR4 := Lib.hid (HTR.out.next hb4)
          have HB4 := Lib.hid (HB3.out.trans (hb4.mono HB3.out.size))
          clear hb4 HTR HB3
          go_wp2_with fail
          refine (same_any p2 p3 c2 c3 l _ HTR4.out (by omega)).mono ?_
          rintro e w5 ⟨rfl, hb5⟩
          have HB5 := Lib.hid (HB4.out.trans (hb5.mono HB4.out.size))
          clear hb5 HTR4 HB4
          go_wp2_with fail
          go_ret
          exact ⟨rfl, HB5.out⟩
theorem blanks_walk (s0 : ByteArray) (n : Int) (w0 : s0.size ≤ maxLen) (_w1 : (Lit.int .i64 n).wf = true) (w : World) (G : Gi w) :
    Calls Tryz.prog 6 #[.string s0, .int .i64 n] w fun e w' => e = .returned (.bool true) ∧ Below w.heap.size w w' := by
  obtain ⟨s, hs⟩ : ∃ s, cutB s0 60 = s := ⟨_, rfl⟩
  have C1 : Hid (∀ W, Calls Tryz.prog 8 #[.string s0, .int .i64 60] W fun e w' => e = .returned (.string s) ∧ W = w') := Lib.hid fun W => by
    have := cut_any s0 60 W w0 (by omega)
    rw [hs] at this; exact this
  have hsz : s.size ≤ 60 := by rw [← hs]; exact cutB_size s0 60
  have AW := Lib.hid fun W G => iawake_any W G
  have HG := Lib.hid G
  clear hs w0 G
  by_cases hin : 0 ≤ n ∧ n ≤ 5
  · obtain ⟨N, rfl⟩ : ∃ N : Nat, n = N := ⟨n.toNat, by omega⟩
    exact blanks_in s0 s N (by omega) hsz w HG AW C1
  · have hout : n < 0 ∨ (¬ n < 0 ∧ 5 < n) := by omega
    clear hin hsz
    rcases hout with h1 | ⟨h1, h2⟩
    all_goals
      go_enter Tryz.func6, Tryz.ntmps6
      go_wp2_with fail
      refine (C1.out _).mono ?_
      rintro e w1 ⟨rfl, rfl⟩
      go_wp2_with fail
      refine (AW.out _ HG.out).mono ?_
      rintro e w3 ⟨rfl, hb3⟩
      have HB3 := Lib.hid hb3
      clear hb3
      go_wp2_with fail
      go_ret
      exact ⟨rfl, HB3.out⟩
end Go.Proofs.YtllbnbnpcogckaaGreatDoor
