/-
  CONTRACT of layer 11's Lex: of any text of at most 4000 bytes its tokens, in memory of the call's own, or the place of an error; nothing that was there is written.
-/
import Derived.Test.YtfmjajmdkndknaaLxR5
namespace Go.Proofs.Ytfmjajmdkndknaa
open Go.RowKit

/-- The answer. -/
def LxPost (x : Except Nat (List Tok)) (n : Nat) (w : World) (e : Ending) (w' : World) : Prop :=
  (match x with
   | .ok l => ∃ g c, e = .returned (.tuple #[.slice (some ⟨g, 0, none⟩) (l.length + 1) c, .int .i64 0, .int .i64 0]) ∧ w'.ownsRow w.heap.size 36 3 (.slice (some ⟨g, 0, none⟩) (l.length + 1) c) (l.length + 1) (tokRow (l ++ [⟨0, [], n⟩]))
   | .error p => e = .returned (.tuple #[.slice none 0 0, .int .i64 (p : Int), .int .i64 9])) ∧ Below w.heap.size w w'
def posW (b : Nat) (w : World) : Nat := match w.cell? ⟨b, 1, none⟩ with
  | some (.int _ x) => x.toNat
  | _ => 0
theorem Rs.pos {b : Nat} {w : World} {s : ByteArray} {p : Nat} {bad : Bool} {l : List Tok} (h : Rs b w s p bad l) : posW b w = p := by
  obtain ⟨v, h⟩ := h
  unfold posW
  rw [h.cells.1.2.1]
  simp
theorem own_weak {w : World} {B C : Nat} {e : TypeId} {z : Nat} {v : Value} {n : Nat} {xs : List Value} (h : w.ownsRow B e z v n xs) (hC : C ≤ B) : w.ownsRow C e z v n xs := by
  refine ⟨h.1, ?_⟩
  rcases h.2 with h2 | ⟨g, cap, cur, hv, hg, r⟩
  · exact .inl h2
  · exact .inr ⟨g, cap, cur, hv, Nat.le_trans hC hg, r⟩
theorem step_eof {rx : Bool} {l : List UInt8} (h : stepL rx l = .eof) : l = [] := by
  cases l with
  | nil => rfl
  | cons c t =>
    exfalso
    rw [step_cons] at h
    have hq : ∀ k q, St.ofQ k q ≠ .eof := fun k q => by cases q <;> intro e <;> cases e
    split at h
    · cases h
    split at h
    · exact hq _ _ h
    split at h
    · exact hq _ _ h
    split at h
    · cases h
    split at h
    · cases h
    split at h <;> cases h
set_option maxHeartbeats 2000000 in
set_option maxRecDepth 100000 in
theorem lex_any (s : ByteArray) (w : World) (hs : s.size ≤ 4000) :
    Calls Try.prog 11 #[.string s] w (LxPost (lexL s.data.toList) s.size w) := by
  have hs' : (s.size : Int) ≤ 4000 := by omega
  have H0 : Hid (lexL s.data.toList = (lexF (s.size + 1) (rxL []) 0 (s.data.toList.drop 0)).map (([] : List Tok) ++ ·)) := Lib.hid (by
    unfold lexL
    rw [ba_sz, List.drop_zero, show rxL [] = true from rfl]
    cases lexF (s.size + 1) true 0 s.data.toList <;> rfl)
  generalize lexL s.data.toList = X at *
  have HI : Hid (Rs w.heap.size (w.alloc (.cells #[.string s, .int .i64 0, .bool false, .slice none 0 0] 42)) s 0 false []) := Lib.hid ⟨_, by
    exact ⟨heap_alloc_new w _, World.ownsRow_nil _ _ _ _⟩⟩
  have HB : Hid (Below w.heap.size w (w.alloc (.cells #[.string s, .int .i64 0, .bool false, .slice none 0 0] 42))) := Lib.hid ((Below.refl _ _).alloc (Nat.le_refl _) _)
  go_enter Try.func11, Try.ntmps11
  go_wp2_with fail
  go_loopw [] (fun wr => ∃ (p : Nat) (l : List Tok), p ≤ s.size ∧ l.length ≤ p ∧ Hid (Rs w.heap.size wr s p false l ∧ Below w.heap.size w wr ∧ X = (lexF (s.size + 1) (rxL l) p (s.data.toList.drop p)).map (l ++ ·))) (fun wr => s.size - posW w.heap.size wr)
  case atStart => exact ⟨0, [], Nat.zero_le _, Nat.le_refl _, Lib.hid ⟨HI.out, HB.out, H0.out⟩⟩
  case round =>
    obtain ⟨p, l, hp, hl, HX⟩ := hrel
    obtain ⟨hr, hb, hx⟩ := HX.out
    have T := token_any w.heap.size s p l wr hr (by omega) (by omega) hp
    have hlt : w.heap.size < wr.heap.size := by obtain ⟨v, hv⟩ := hr; exact hv.lt
    have hpos := hr.pos
    have hm := blank_le (s.data.toList.drop p)
    have hdl : (s.data.toList.drop p).length = s.size - p := by rw [List.length_drop, ba_sz]
    have hdm : ((s.data.toList.drop p).drop (blankL (s.data.toList.drop p))).length = s.size - p - blankL (s.data.toList.drop p) := by rw [List.length_drop, hdl]
    rw [hdl] at hm
    have hsl := step_le (rxL l) ((s.data.toList.drop p).drop (blankL (s.data.toList.drop p)))
    rw [hdm] at hsl
    cases hst : stepL (rxL l) ((s.data.toList.drop p).drop (blankL (s.data.toList.drop p))) with
    | tok k t z =>
      obtain ⟨hz0, hz1⟩ := hsl.1 _ _ _ hst
      have hl1 := lexF_tok (n := s.size + 1) (p := p) hst (by omega)
      rw [hst] at T
      rw [hl1, List.drop_drop] at hx
      have HN : Hid (∀ w8, StPost w.heap.size s (p + blankL (s.data.toList.drop p)) l wr (.tok k t z) (.returned (.bool true)) w8 → Rs w.heap.size w8 s (p + blankL (s.data.toList.drop p) + z) false (l ++ [⟨k, t, p + blankL (s.data.toList.drop p)⟩]) ∧ Below w.heap.size w w8 ∧ X = (lexF (s.size + 1) (rxL (l ++ [⟨k, t, p + blankL (s.data.toList.drop p)⟩])) (p + blankL (s.data.toList.drop p) + z) (s.data.toList.drop (p + blankL (s.data.toList.drop p) + z))).map ((l ++ [⟨k, t, p + blankL (s.data.toList.drop p)⟩]) ++ ·)) := Lib.hid fun w8 h => by
        refine ⟨h.1.2, hb.trans h.2, ?_⟩
        rw [hx, rxL_snoc, Nat.add_assoc]
        cases lexF (s.size + 1) (rxA k t) (p + (blankL (s.data.toList.drop p) + z)) (s.data.toList.drop (p + (blankL (s.data.toList.drop p) + z))) with
        | error e => rfl
        | ok r => simp [Except.map]
      have HT := Lib.hid T
      generalize blankL (s.data.toList.drop p) = m at *
      clear T hx hl1 hst hsl hr hb HX
      go_wp2_with fail
      refine HT.out.mono ?_
      rintro e w8 h8
      obtain rfl : e = .returned (.bool true) := h8.1.1
      have hN := HN.out w8 h8
      have HN8 := Lib.hid hN
      have hp8 := hN.1.pos
      clear h8 hN HT HN
      go_wp2_with fail
      go_roundw
      case rel => exact ⟨p + m + z, l ++ [⟨k, t, p + m⟩], by omega, by rw [List.length_append]; simp; omega, HN8⟩
      case measure => rw [hp8, hpos]; omega
    | eof =>
      have he := step_eof hst
      rw [he] at hdm
      simp only [List.length_nil] at hdm
      have hl1 := lexF_eof (n := s.size + 1) (p := p) hst
      rw [hst] at T
      rw [hl1] at hx
      have hX : X = .ok l := by rw [hx]; simp [Except.map]
      have hP : p + blankL (s.data.toList.drop p) = s.size := by omega
      rw [hP] at T
      have HT := Lib.hid T
      have HX2 := Lib.hid hX
      have HB2 := Lib.hid hb
      have AD : Hid (∀ W, Rs w.heap.size W s s.size false l → Calls Try.prog 18 #[.pointer (some ⟨w.heap.size, 0, none⟩), .int .i64 0, .string ⟨#[]⟩, .int .i64 0] W (AdPost w.heap.size s (s.size + 0) false (l ++ [⟨0, [], s.size⟩]) W)) := Lib.hid fun W h => add_any w.heap.size s s.size false l 0 ⟨#[]⟩ 0 W h (by decide) (by omega) (by omega) (by omega)
      clear T hx hl1 hst hsl hr hb HX hX hP he hdm hm hdl
      go_wp2_with fail
      refine HT.out.mono ?_
      rintro e w8 h8
      obtain rfl : e = .returned (.bool false) := h8.1.1
      obtain ⟨v8, hr8⟩ := h8.1.2
      have HR8 := Lib.hid hr8
      have HB8 := Lib.hid (HB2.out.trans h8.2)
      obtain ⟨⟨c0, c1, c2, c3⟩, f1, f2, f3⟩ := hr8.cells
      clear h8 hr8 HT
      go_wp2_with fail
      refine (AD.out _ ⟨v8, HR8.out⟩).mono ?_
      rintro e w9 ⟨rfl, ⟨v9, hr9⟩, hb9⟩
      have hrow := hr9.row
      have he9 : (l ++ [⟨0, [], s.size⟩] : List Tok).length = l.length + 1 := by simp
      rw [he9] at hrow
      obtain ⟨g, c, rfl⟩ := own_succ hrow
      obtain ⟨⟨d0, d1, d2, d3⟩, g1, g2, g3⟩ := hr9.cells
      have HR9 := Lib.hid hrow
      have HB9 := Lib.hid (HB8.out.trans hb9)
      clear hr9 hb9 hrow c0 c1 c2 c3 f1 f2 f3
      go_wp2_with fail
      rw [HX2.out]
      refine bodyPost_ret (v := .tuple #[.slice (some ⟨g, 0, none⟩) (l.length + 1) c, .int .i64 0, .int .i64 0]) ?_ rfl ⟨⟨g, c, rfl, own_weak HR9.out (Nat.le_succ _)⟩, HB9.out⟩
      simp [results, Try.results11, go_sem]
    | bad o =>
      have hz1 := hsl.2 _ hst
      have hl1 := lexF_bad (n := s.size + 1) (p := p) hst (by omega)
      rw [hst] at T
      rw [hl1] at hx
      have hX : X = .error (p + blankL (s.data.toList.drop p) + o) := by rw [hx]; rfl
      have HT := Lib.hid T
      have HX2 := Lib.hid hX
      have HB2 := Lib.hid hb
      obtain ⟨Q, hQ⟩ : ∃ Q, p + blankL (s.data.toList.drop p) + o = Q := ⟨_, rfl⟩
      rw [hQ] at HX2
      have HQ := Lib.hid hQ
      clear hQ
      clear T hx hl1 hst hsl hr hb HX hX
      go_wp2_with fail
      refine HT.out.mono ?_
      rintro e w8 h8
      obtain rfl : e = .returned (.bool false) := h8.1.1
      have hr7 : Rs w.heap.size w8 s (p + blankL (s.data.toList.drop p) + o) true l := h8.1.2
      rw [HQ.out] at hr7
      obtain ⟨v8, hr8⟩ := hr7
      have HB8 := Lib.hid (HB2.out.trans h8.2)
      obtain ⟨⟨c0, c1, c2, c3⟩, f1, f2, f3⟩ := hr8.cells
      clear h8 hr8 HT
      go_wp2_with fail
      go_region
      go_wp2_with fail
      rw [HX2.out]
      refine bodyPost_ret (v := .tuple #[.slice none 0 0, .int .i64 (Q : Int), .int .i64 9]) ?_ rfl ⟨rfl, HB8.out.drew⟩
      simp [results, Try.results11, go_sem]
end Go.Proofs.Ytfmjajmdkndknaa
