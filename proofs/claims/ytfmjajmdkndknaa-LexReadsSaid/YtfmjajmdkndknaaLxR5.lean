/-
  CONTRACT of layer 11's token, whole.
-/
import Derived.Test.YtfmjajmdkndknaaLxR4
namespace Go.Proofs.Ytfmjajmdkndknaa
open Go.RowKit

theorem strEsc_len (d : UInt8) : (strEsc d).length ≤ 2 := by
  unfold strEsc
  split
  · simp
  · split
    · simp
    · split <;> simp
theorem reEsc_len (d : UInt8) : (reEsc d).length ≤ 2 := by
  unfold reEsc
  split
  · simp
  · split <;> simp
theorem token_any (b : Nat) (s : ByteArray) (p : Nat) (l : List Tok) (w : World) (h : Rs b w s p false l) (hs : s.size ≤ 10000) (hl : l.length ≤ 100000) (hp : p ≤ s.size) :
    Calls Try.prog 17 #[.pointer (some ⟨b, 0, none⟩)] w (StPost b s (p + blankL (s.data.toList.drop p)) l w (stepL (rxL l) ((s.data.toList.drop p).drop (blankL (s.data.toList.drop p))))) := by
  obtain ⟨v, h⟩ := h
  have hm := blank_le (s.data.toList.drop p)
  rw [List.length_drop, ba_sz] at hm
  have BL : Hid (∀ W, Calls Try.prog 21 #[.string (s.extract p s.size)] W fun e w' => e = .returned (.int .i64 (blankL (s.data.toList.drop p) : Nat)) ∧ w' = W) := Lib.hid fun W => by
    have := blank_any (s.extract p s.size) W (by simp; omega)
    rw [extk] at this; exact this
  rw [List.drop_drop]
  generalize blankL (s.data.toList.drop p) = m at *
  obtain ⟨P, hP⟩ : ∃ P, P = p + m := ⟨_, rfl⟩
  rw [← hP]
  have hpP : P ≤ s.size := by omega
  by_cases hz : P < s.size
  · have hR : (s.extract P s.size).data.toList = s.data.toList.drop P := extk s P
    have hRz : (s.extract P s.size).size = s.size - P := by simp
    have hR1 : Hid (s.extract P s.size = s.extract P s.size) := Lib.hid rfl
    have hl0 : s.data.toList.drop P = s[P] :: s.data.toList.drop (P + 1) := drop_at s P hz
    rw [hl0, step_cons, ← hl0]
    have hR0 : ∀ h : 0 < (s.extract P s.size).size, (s.extract P s.size)[0] = s[P] := by
      intro h
      have h1 := drop_at (s.extract P s.size) 0 h
      rw [List.drop_zero, hR, hl0] at h1
      exact (List.cons.inj h1).1.symm
    have hz2 : 0 < (s.extract P s.size).size := by omega
    have he : (s.extract P s.size).toList.isEmpty = false := by rw [ByteArray.toList_eq, hR, hl0]; rfl
    have hc0 := hR0 hz2
    have IL : Hid (∀ W, Calls Try.prog 26 #[.int .u8 ((s.extract P s.size)[0].toNat : Int)] W fun e w' => e = .returned (.bool (isLt s[P])) ∧ w' = W) := Lib.hid fun W => by rw [hc0]; exact islt_any _ W
    have NS : Hid (∀ W, Rs b W s P false l → Calls Try.prog 29 #[.pointer (some ⟨b, 0, none⟩), .string (s.extract P s.size)] W (StPost b s P l W (nosL (s.data.toList.drop P)))) := Lib.hid fun W h => by
      have := nos_any b s P l (s.extract P s.size) W h (by omega) hl (by omega)
      rw [hR] at this; exact this
    have BG := Lib.hid (fun W (h : Rs b W s P false l) => begins_any b s P false l W h hl)
    by_cases c1 : s[P] = 10
    · rw [if_pos c1]
      exact token_nl b s p m P l v _ _ w h hs hl hP hpP BL hR1 he hz2 (by rw [hc0, c1]; rfl) rfl
    rw [if_neg c1]
    by_cases c2 : s[P] = 34
    · rw [if_pos c2]
      refine token_str b s p m P l v _ _ w h hs hl hP hpP BL hR1 he hz2 (by rw [hc0, c2]; rfl) (Lib.hid fun W h => ?_)
      exact quoted_str b s P l 3 strEsc 34 W h hs hl hz c2 strEsc_len sesc_any
    rw [if_neg c2]
    have n1 : ¬ ((s.extract P s.size)[0].toNat : Int) = 10 := fun e => c1 (hc0 ▸ nat_of (by decide) e)
    have n2 : ¬ ((s.extract P s.size)[0].toNat : Int) = 34 := fun e => c2 (hc0 ▸ nat_of (by decide) e)
    by_cases c3 : s[P] = 47
    · cases hrx : rxL l with
      | true =>
        rw [hrx] at BG
        rw [if_pos ⟨c3, rfl⟩]
        refine token_re b s p m P l v _ _ w h hs hl hP hpP BL hR1 he hz2 (by rw [hc0, c3]; rfl) BG (Lib.hid fun W h => ?_)
        exact quoted_re b s P l 4 reEsc 47 W h hs hl hz c3 reEsc_len resc_any
      | false =>
        rw [hrx] at BG
        rw [if_neg (fun h => by cases h.2), if_neg (by rw [c3]; decide)]
        exact token_div b s p m P l v _ _ w h hs hl hP hpP BL hR1 he hz2 (by rw [hc0, c3]; rfl) BG (Lib.hid fun W => by have := islt_any 47 W; exact this) NS
    rw [if_neg (fun h => c3 h.1)]
    have n3 : ¬ ((s.extract P s.size)[0].toNat : Int) = 47 := fun e => c3 (hc0 ▸ nat_of (by decide) e)
    cases hlt : isLt s[P] with
    | false =>
      rw [hlt] at IL
      rw [if_neg (by simp)]
      exact token_other b s p m P l v _ _ w h hs hl hP hpP BL hR1 he hz2 n1 n2 n3 IL NS
    | true =>
      rw [hlt] at IL
      rw [if_pos rfl]
      have hn := nm_le (s.data.toList.drop P)
      rw [List.length_drop, ba_sz] at hn
      have h0 := ext0 (s.extract P s.size) (nmL (s.data.toList.drop P))
      have h1 := extk (s.extract P s.size) (nmL (s.data.toList.drop P))
      rw [hR] at h0 h1
      refine token_name b s p m P l v _ _ w h hs hl hP hpP BL hR1 (nmL (s.data.toList.drop P)) (kindL ((s.data.toList.drop P).take (nmL (s.data.toList.drop P))) ((s.data.toList.drop P).drop (nmL (s.data.toList.drop P)))) ((s.data.toList.drop P).take (nmL (s.data.toList.drop P))) he hz2 n1 n2 n3 (by omega) (by omega) IL (Lib.hid fun W => ?_) (Lib.hid fun W => ?_) (Lib.hid fun W h => ?_) rfl
      · have := nms_any (s.extract P s.size) W (by omega)
        rw [hR] at this; exact this
      · have := kind_any ((s.extract P s.size).extract 0 (nmL (s.data.toList.drop P))) ((s.extract P s.size).extract (nmL (s.data.toList.drop P)) (s.extract P s.size).size) W
        rw [h0, h1] at this; exact this
      · have := add_any b s P false l (kindL ((s.data.toList.drop P).take (nmL (s.data.toList.drop P))) ((s.data.toList.drop P).drop (nmL (s.data.toList.drop P)))) ((s.extract P s.size).extract 0 (nmL (s.data.toList.drop P))) (nmL (s.data.toList.drop P)) W h (by simp; omega) hl (by omega) (by omega)
        rw [h0] at this; exact this
  · have hd := drop_end s P (by omega)
    rw [hd]
    refine token_eof b s p m P l v ⟨#[]⟩ _ w h hs hl hP hpP BL (Lib.hid ?_) (Lib.hid rfl) rfl
    exact WideShapes.bytes_inj (by rw [extk, hd])
end Go.Proofs.Ytfmjajmdkndknaa
