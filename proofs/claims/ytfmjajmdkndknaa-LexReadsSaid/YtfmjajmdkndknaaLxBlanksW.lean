/-
  THE WALK of the law LexBlanks: whatever the two texts, it returns true and writes to nothing that was there.
-/
import Derived.Test.YtfmjajmdkndknaaLxAw
import Derived.Test.YtfmjajmdkndknaaLxCat2
import Derived.Deep.QuietTactic
import Derived.BigQuiet
namespace Go.Proofs.Ytfmjajmdkndknaa
open Go.RowKit

theorem TAt.tok {w : World} {g : Nat} {r m : List Tok} (h : TAt w g (r ++ m)) (k : Nat) (hk : k < r.length) :
    w.cell? ⟨g, k * 3, none⟩ = some (.int .i64 r[k].k) ∧ w.cell? ⟨g, k * 3 + 1, none⟩ = some (.string ⟨r[k].t.toArray⟩) ∧ w.cell? ⟨g, k * 3 + 2, none⟩ = some (.int .i64 r[k].a) := by
  have hk' : k < (r ++ m).length := by rw [List.length_append]; omega
  have e : (r ++ m)[k]'hk' = r[k] := List.getElem_append_left hk
  refine ⟨?_, ?_, ?_⟩
  · rw [h.k k hk', e]
  · rw [h.t k hk', e]
  · rw [h.a k hk', e]
theorem TAt.drewN {w : World} {g : Nat} {l : List Tok} (h : TAt w g l) (n : Nat) : TAt (w.drewN n) g l := ⟨h.lt, h.k, h.t, h.a⟩
theorem lex_len {l : List UInt8} {r : List Tok} (h : lexL l = .ok r) : r.length ≤ l.length := by
  have h1 := lexF_rise _ _ _ _ _ h
  rw [Nat.zero_add] at h1
  have := h1.len (Nat.zero_le _); omega
set_option maxHeartbeats 4000000 in
set_option maxRecDepth 100000 in
theorem blanks_walk (a b : ByteArray) (ha : a.size ≤ maxLen) (hb : b.size ≤ maxLen) (w : World) :
    Calls Try.prog 6 #[.string a, .string b] w fun e w' => e = .returned (.bool true) ∧ Below w.heap.size w w' := by
  have C1 := Lib.hid fun W => cut_any a 200 W ha (by omega)
  have C2 := Lib.hid fun W => cut_any b 50 W hb (by omega)
  have l1 := cutB_size a 200
  have l2 := cutB_size b 50
  generalize cutB a 200 = x at *
  generalize cutB b 50 = y at *
  have AW := Lib.hid fun W => awake_any W
  clear ha hb
  cases hx : lexL x.data.toList with
  | error p =>
    have C3 := Lib.hid fun W => lex_err x p W (by omega) hx
    clear hx
    go_enter Try.func6, Try.ntmps6
    go_wp2_with fail
    refine (C1.out _).mono ?_
    rintro e w1 ⟨rfl, rfl⟩
    go_wp2_with fail
    refine (C2.out _).mono ?_
    rintro e w1 ⟨rfl, rfl⟩
    go_wp2_with fail
    refine (C3.out _).mono ?_
    rintro e w2 ⟨rfl, hb2⟩
    have HB2 := Lib.hid hb2
    clear hb2
    go_wp2_with fail
    refine (AW.out _).mono ?_
    rintro e w3 ⟨rfl, hb3⟩
    have HB3 := Lib.hid (HB2.out.trans (hb3.mono HB2.out.size))
    clear hb3 HB2
    go_wp2_with fail
    go_ret
    exact ⟨rfl, HB3.out⟩
  | ok r =>
    have C3 := Lib.hid fun W => lex_ok x r W (by omega) hx
    have hrl := lex_len hx
    rw [ba_sz] at hrl
    have C4 : Hid ((10 : UInt8) ∉ y.data.toList → ∀ W, Calls Try.prog 11 #[.string (x ++ ⟨#[32, 9, 35]⟩ ++ y)] W (OkPost r (x ++ ⟨#[32, 9, 35]⟩ ++ y).size W)) := Lib.hid fun h10 W => by
      refine lex_ok _ r W ?_ ?_
      · rw [ByteArray.size_append, ByteArray.size_append, show (⟨#[32, 9, 35]⟩ : ByteArray).size = 3 from rfl]; omega
      · have e : (x ++ ⟨#[32, 9, 35]⟩ ++ y).data.toList = x.data.toList ++ 32 :: 9 :: 35 :: y.data.toList := by simp
        rw [e]; exact lex_blanks hx h10
    have HI : Hid ((10 : UInt8) ∉ y.data.toList.take 0) := Lib.hid (by simp)
    clear hx
    generalize (x ++ ⟨#[32, 9, 35]⟩ ++ y).size = n2 at *
    go_enter Try.func6, Try.ntmps6
    go_wp2_with fail
    refine (C1.out _).mono ?_
    rintro e w1 ⟨rfl, rfl⟩
    go_wp2_with fail
    refine (C2.out _).mono ?_
    rintro e w1 ⟨rfl, rfl⟩
    go_wp2_with fail
    refine (C3.out _).mono ?_
    rintro e w2 ⟨g, c, rfl, t2, hb2⟩
    have HT := Lib.hid t2
    have HB := Lib.hid hb2
    clear t2 hb2
    go_wp2_with fail
    go_loopw [8] (fun iv wr => ∃ k : Nat, k ≤ y.size ∧ iv = .int .i64 k ∧ wr = w2 ∧ Hid ((10 : UInt8) ∉ y.data.toList.take k)) (fun iv _ => y.size - (intOf iv).toNat)
    case atStart => exact ⟨0, Nat.zero_le _, by first | rfl | trivial, by first | rfl | trivial, HI⟩
    case round =>
      obtain ⟨k, hk, rfl, rfl, HK⟩ := hrel
      by_cases hlt : k < y.size
      · by_cases h1 : (y[k].toNat : Int) = 10
        · go_wp2_with fail
          refine (AW.out _).mono ?_
          rintro e w3 ⟨rfl, hb3⟩
          have HB3 := Lib.hid (HB.out.trans (hb3.mono HB.out.size))
          clear hb3 HB
          go_wp2_with fail
          go_ret
          exact ⟨rfl, HB3.out⟩
        · have HN : Hid ((10 : UInt8) ∉ y.data.toList.take (k + 1)) := Lib.hid (by
            have e : y.data.toList.take (k + 1) = y.data.toList.take k ++ [y[k]] := by rw [List.take_succ_eq_append_getElem (by simpa using hlt)]; rfl
            rw [e, List.mem_append]
            rintro (h | h)
            · exact HK.out h
            · rw [List.mem_singleton] at h; exact h1 (by rw [← h]; rfl))
          clear HK
          go_wp2_with fail
          go_roundw
          case rel => exact ⟨k + 1, by omega, by go_num, by first | rfl | trivial, HN⟩
          case measure => simp [intOf]; omega
      · have h10 : (10 : UInt8) ∉ y.data.toList := by
          have := HK.out
          rwa [List.take_of_length_le (by rw [ba_sz]; omega)] at this
        have C5 := Lib.hid (C4.out h10)
        clear h10 HK C4
        go_wp2_with fail
        refine (C5.out _).mono ?_
        rintro e w3 ⟨g2, c2, rfl, t3, hb3⟩
        have HI2 := Lib.hid (And.intro (HT.out.below hb3 (Nat.le_refl _)) (And.intro t3 (HB.out.trans (hb3.mono HB.out.size))))
        clear t3 hb3 HT HB
        go_wp2_with fail
        go_loopw [12] (fun iv wx => ∃ k : Nat, k ≤ r.length ∧ iv = .int .i64 k ∧ Hid (TAt wx g (r ++ [endT x.size]) ∧ TAt wx g2 (r ++ [endT n2]) ∧ Below w.heap.size w wx)) (fun iv _ => r.length - (intOf iv).toNat)
        case atStart => exact ⟨0, Nat.zero_le _, rfl, HI2⟩
        case round =>
          obtain ⟨i, hi, rfl, HX⟩ := hrel
          by_cases hil : i < r.length
          · obtain ⟨d0, d1, d2⟩ := HX.out.1.tok i hil
            obtain ⟨e0, e1, e2⟩ := HX.out.2.1.tok i hil
            generalize (r[i].k : Int) = kk at *
            generalize (r[i].a : Int) = aa at *
            generalize (⟨r[i].t.toArray⟩ : ByteArray) = tt at *
            go_wp2_with fail
            go_quiet (fail)
            go_wp2_with fail
            go_roundw
            case rel => exact ⟨i + 1, by omega, by go_num, Lib.hid ⟨HX.out.1.drewN _, HX.out.2.1.drewN _, HX.out.2.2.trans ⟨rfl, rfl, rfl, Nat.le_refl _, fun _ _ => rfl⟩⟩⟩
            case measure => simp [intOf]; omega
          · obtain rfl : i = r.length := by omega
            have HB := Lib.hid HX.out.2.2
            clear HX
            go_wp2_with fail
            refine (AW.out _).mono ?_
            rintro e w4 ⟨rfl, hb4⟩
            have HB4 := Lib.hid (HB.out.trans (hb4.mono HB.out.size))
            clear hb4 HB
            go_wp2_with fail
            go_ret
            exact ⟨rfl, HB4.out⟩
end Go.Proofs.Ytfmjajmdkndknaa
