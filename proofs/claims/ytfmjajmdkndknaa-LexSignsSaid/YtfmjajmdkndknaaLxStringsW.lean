/-
  THE WALK of the law LexStrings: whatever the text, it returns true and writes to nothing that was there.
-/
import Derived.Test.YtfmjajmdkndknaaLxAw
import Derived.Laws.Concat
namespace Go.Proofs.Ytfmjajmdkndknaa
open Go.RowKit

def escS (c : UInt8) : List UInt8 := if c = 34 ∨ c = 92 then [92, c] else if c = 10 then [92, 110] else [c]
theorem qu_escS : ∀ l : List UInt8, quL strEsc 34 (l.flatMap escS ++ [34]) = .done l ((l.flatMap escS).length + 1)
  | [] => rfl
  | c :: l => by
    have ih := qu_escS l
    rw [List.flatMap_cons]
    unfold escS
    split
    · rename_i h
      rcases h with rfl | rfl
      · simp only [List.cons_append, List.nil_append]
        unfold quL
        rw [if_neg (by decide), if_pos rfl]
        simp only []
        rw [if_neg (by decide), show List.flatMap (fun c => if c = 34 ∨ c = 92 then [92, c] else if c = 10 then [92, 110] else [c]) l = l.flatMap escS from rfl, ih]
        simp [Qu.push, strEsc]; omega
      · simp only [List.cons_append, List.nil_append]
        unfold quL
        rw [if_neg (by decide), if_pos rfl]
        simp only []
        rw [if_neg (by decide), show List.flatMap (fun c => if c = 34 ∨ c = 92 then [92, c] else if c = 10 then [92, 110] else [c]) l = l.flatMap escS from rfl, ih]
        simp [Qu.push, strEsc]; omega
    · rename_i h
      have h1 : ¬ c = 34 := fun e => h (.inl e)
      have h2 : ¬ c = 92 := fun e => h (.inr e)
      split
      · rename_i h3
        subst h3
        simp only [List.cons_append, List.nil_append]
        unfold quL
        rw [if_neg (by decide), if_pos rfl]
        simp only []
        rw [if_neg (by decide), show List.flatMap (fun c => if c = 34 ∨ c = 92 then [92, c] else if c = 10 then [92, 110] else [c]) l = l.flatMap escS from rfl, ih]
        simp [Qu.push, strEsc]; omega
      · rename_i h3
        simp only [List.cons_append, List.nil_append]
        unfold quL
        rw [if_neg h1, if_neg h2, if_neg h3, show List.flatMap (fun c => if c = 34 ∨ c = 92 then [92, c] else if c = 10 then [92, 110] else [c]) l = l.flatMap escS from rfl, ih]
        simp [Qu.push]; omega
theorem lex_str (l : List UInt8) : lexL (34 :: (l.flatMap escS ++ [34])) = .ok [⟨3, l, 0⟩] := by
  unfold lexL
  have hb : blankL (34 :: (l.flatMap escS ++ [34])) = 0 := by rw [blank_cons]; simp
  have hs : stepL true ((34 :: (l.flatMap escS ++ [34])).drop (blankL (34 :: (l.flatMap escS ++ [34])))) = .tok 3 l ((l.flatMap escS).length + 2) := by
    rw [hb, List.drop_zero, step_cons, if_neg (by decide), if_pos rfl, qu_escS]; rfl
  rw [lexF_tok hs (Nat.lt_succ_self _), hb]
  have hd : (34 :: (l.flatMap escS ++ [34])).drop (0 + ((l.flatMap escS).length + 2)) = [] := List.drop_eq_nil_of_le (by simp)
  rw [hd]
  rfl
theorem escS_len (c : UInt8) : (escS c).length ≤ 2 := by
  unfold escS
  split
  · simp
  · split <;> simp
theorem flat_snoc (s : ByteArray) (k : Nat) (h : k < s.size) : (s.data.toList.take (k + 1)).flatMap escS = (s.data.toList.take k).flatMap escS ++ escS s[k] := by
  have e : s.data.toList.take (k + 1) = s.data.toList.take k ++ [s[k]] := by rw [List.take_succ_eq_append_getElem (by simpa using h)]; rfl
  rw [e, List.flatMap_append]; simp
theorem ext_one (s : ByteArray) (k : Nat) (h : k < s.size) : (s.extract k (k + 1)).data.toList = [s[k]] := by
  have e : (s.extract k (k + 1)).data.toList = (s.data.toList.drop k).take 1 := by simp [ByteArray.data_extract]
  rw [e, drop_at s k h]; rfl
theorem str_grow {s t u : ByteArray} {k : Nat} (h : k < s.size) (ht : t.data.toList = (s.data.toList.take k).flatMap escS) (hz : t.size ≤ 2 * k) (hu : u.data.toList = escS s[k]) :
    (t ++ u).data.toList = (s.data.toList.take (k + 1)).flatMap escS ∧ (t ++ u).size ≤ 2 * (k + 1) := by
  have h1 := escS_len s[k]
  rw [← hu, ba_sz] at h1
  refine ⟨?_, by rw [ByteArray.size_append]; omega⟩
  rw [flat_snoc s k h, ← ht, ← hu]; simp
theorem mk_self (x : ByteArray) : (⟨x.data.toList.toArray⟩ : ByteArray) = x := (ba_of x _ rfl).symm
set_option maxHeartbeats 4000000 in
set_option maxRecDepth 100000 in
theorem strings_walk (a : ByteArray) (ha : a.size ≤ maxLen) (w : World) :
    Calls Try.prog 7 #[.string a] w fun e w' => e = .returned (.bool true) ∧ Below w.heap.size w w' := by
  have C1 := Lib.hid fun W => cut_any a 200 W ha (by omega)
  have l1 := cutB_size a 200
  generalize cutB a 200 = x at *
  have AW := Lib.hid fun W => awake_any W
  clear ha
  have H0 : Hid ((⟨#[]⟩ : ByteArray).data.toList = (x.data.toList.take 0).flatMap escS ∧ (⟨#[]⟩ : ByteArray).size ≤ 2 * 0) := Lib.hid ⟨by simp, by decide⟩
  go_enter Try.func7, Try.ntmps7
  go_wp2_with fail
  refine (C1.out _).mono ?_
  rintro e w1 ⟨rfl, rfl⟩
  go_wp2_with fail
  go_loop [3, 4] (fun tv iv => ∃ (k : Nat) (t : ByteArray), k ≤ x.size ∧ t.size ≤ 400 ∧ iv = .int .i64 k ∧ tv = .string t ∧ Hid (t.data.toList = (x.data.toList.take k).flatMap escS ∧ t.size ≤ 2 * k)) (fun _ iv => x.size - (intOf iv).toNat)
  case atStart => exact ⟨0, ⟨#[]⟩, Nat.zero_le _, by decide, rfl, rfl, H0⟩
  case round =>
    obtain ⟨k, t, hk, htz, rfl, rfl, HK⟩ := hrel
    by_cases hlt : k < x.size
    · have hone := ext_one x k hlt
      have hk1 : (k : Int) + 1 ≤ (x.size : Int) := by omega
      have hez : (x.extract k (k + 1)).size = 1 := by rw [← ba_sz, hone]; rfl
      by_cases h1 : (x[k].toNat : Int) = 34 ∨ (x[k].toNat : Int) = 92
      · have HN := Lib.hid (str_grow (u := ⟨#[92]⟩ ++ x.extract k (k + 1)) hlt HK.out.1 HK.out.2 (by
          have c1 : x[k] = 34 ∨ x[k] = 92 := h1.imp (nat_of (by decide)) (nat_of (by decide))
          unfold escS
          rw [if_pos c1]
          simp only [ByteArray.data_append, Array.toList_append, hone]; rfl))
        have hz2 := HN.out.2
        clear HK hone
        rcases h1 with h1 | h1
        all_goals
          go_wp2_with fail
          go_round
          case rel => exact ⟨k + 1, t ++ (⟨#[92]⟩ ++ x.extract k (k + 1)), by omega, by omega, by go_num, rfl, HN⟩
          case measure => simp [intOf]; omega
      · have n1 : ¬ (x[k].toNat : Int) = 34 := fun h => h1 (.inl h)
        have n2 : ¬ (x[k].toNat : Int) = 92 := fun h => h1 (.inr h)
        have c1 : ¬ (x[k] = 34 ∨ x[k] = 92) := by rintro (h | h) <;> rw [h] at n1 n2 <;> simp at n1 n2
        by_cases h3 : (x[k].toNat : Int) = 10
        · have HN := Lib.hid (str_grow (u := ⟨#[92, 110]⟩) hlt HK.out.1 HK.out.2 (by
            have c2 : x[k] = 10 := nat_of (by decide) h3
            unfold escS
            rw [if_neg c1, if_pos c2]))
          have hz2 := HN.out.2
          clear HK hone c1 h1
          go_wp2_with fail
          go_round
          case rel => exact ⟨k + 1, t ++ ⟨#[92, 110]⟩, by omega, by omega, by go_num, rfl, HN⟩
          case measure => simp [intOf]; omega
        · have HN := Lib.hid (str_grow (u := x.extract k (k + 1)) hlt HK.out.1 HK.out.2 (by
            have c2 : ¬ x[k] = 10 := fun e => h3 (by rw [e]; rfl)
            unfold escS
            rw [if_neg c1, if_neg c2]; exact hone))
          have hz2 := HN.out.2
          have b1 : ((x[k].toNat : Int) == 34) = false := by simpa using n1
          have b2 : ((x[k].toNat : Int) == 92) = false := by simpa using n2
          have b3 : ((x[k].toNat : Int) == 10) = false := by simpa using h3
          clear HK hone c1 h1
          go_wp2_with fail
          go_round
          case rel => exact ⟨k + 1, t ++ x.extract k (k + 1), by omega, by omega, by go_num, rfl, HN⟩
          case measure => simp [intOf]; omega
    · have hL : lexL (⟨#[34]⟩ ++ t ++ ⟨#[34]⟩ : ByteArray).data.toList = .ok [⟨3, x.data.toList, 0⟩] := by
        have e : (⟨#[34]⟩ ++ t ++ ⟨#[34]⟩ : ByteArray).data.toList = 34 :: (x.data.toList.flatMap escS ++ [34]) := by
          have h := HK.out.1
          rw [List.take_of_length_le (by rw [ba_sz]; omega)] at h
          rw [← h]; simp
        rw [e]; exact lex_str _
      have C2 := Lib.hid fun W => lex_ok (⟨#[34]⟩ ++ t ++ ⟨#[34]⟩) _ W (by rw [ByteArray.size_append, ByteArray.size_append, show (⟨#[34]⟩ : ByteArray).size = 1 from rfl]; omega) hL
      clear HK hL
      go_wp2_with fail
      refine (C2.out _).mono ?_
      rintro e w2 ⟨g, c, rfl, t2, hb2⟩
      have HT := Lib.hid t2
      have HB := Lib.hid hb2
      clear t2 hb2
      go_wp2_with fail
      refine (AW.out _).mono ?_
      rintro e w3 ⟨rfl, hb3⟩
      have T3 := HT.out.below hb3 (Nat.le_refl _)
      have d0 : w3.cell? ⟨g, 0, none⟩ = some (.int .i64 3) := T3.k 0 (by simp)
      have d1 : w3.cell? ⟨g, 1, none⟩ = some (.string x) := (T3.t 0 (by simp)).trans (congrArg (fun z => some (Value.string z)) (mk_self x))
      have d2 : w3.cell? ⟨g, 2, none⟩ = some (.int .i64 0) := T3.a 0 (by simp)
      have HB3 := Lib.hid (HB.out.trans (hb3.mono HB.out.size))
      clear T3 hb3 HT HB
      go_wp2_with fail
      go_ret
      exact ⟨by simp, HB3.out⟩
end Go.Proofs.Ytfmjajmdkndknaa
