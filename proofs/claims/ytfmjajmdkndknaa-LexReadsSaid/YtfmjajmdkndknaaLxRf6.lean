/-
  CONTRACT of the document's own Lex for layer 11.
-/
import Derived.Test.YtfmjajmdkndknaaLxRf5
namespace Go.Proofs.Ytfmjajmdkndknaa
open Go.RowKit

theorem lexF_skip {N : Nat} {rx : Bool} {p k : Nat} {l : List UInt8} (h : blankL l = k + blankL (l.drop k)) : lexF N rx p l = lexF N rx (p + k) (l.drop k) := by
  cases N with
  | zero => rfl
  | succ n =>
    unfold lexF
    have e1 : (l.drop k).drop (blankL (l.drop k)) = l.drop (blankL l) := by rw [List.drop_drop, h]
    rw [e1]
    cases stepL rx (l.drop (blankL l)) with
    | eof => rfl
    | bad o => simp only []; rw [show p + blankL l + o = p + k + blankL (l.drop k) + o from by omega]
    | tok q t z =>
      simp only []
      rw [List.drop_drop, show k + (blankL (l.drop k) + z) = blankL l + z from by omega, show p + k + blankL (l.drop k) = p + blankL l from by omega]
def RxPost (x : Except Nat (List Tok)) (n : Nat) (w : World) (e : Ending) (w' : World) : Prop :=
  (match x with
   | .ok l => ∃ g c, e = .returned (.tuple #[.slice (some ⟨g, 0, none⟩) (l.length + 1) c, .int .i64 0, .int .i64 0]) ∧ w'.ownsRow w.heap.size 44 3 (.slice (some ⟨g, 0, none⟩) (l.length + 1) c) (l.length + 1) (tokRow (l ++ [endT n]))
   | .error p => e = .returned (.tuple #[.slice none 0 0, .int .i64 (p : Int), .int .i64 9])) ∧ Below w.heap.size w w'
theorem Try.infoRTok : (Try.prog.info? 44).map (fun i => (i.zero, i.size, i.bytes)) = some (some (.agg #[.int .i64 0, .string ⟨#[]⟩, .int .i64 0]), 3, 32) := by kernel_rfl
structure RxR (w : World) (X : Except Nat (List Tok)) (s : ByteArray) (p : Nat) (l : List Tok) (tv : Value) (wr : World) : Prop where
  row : wr.ownsRow w.heap.size 44 3 tv l.length (tokRow l)
  below : Below w.heap.size w wr
  eq : X = (lexF (s.size + 1) (rxL l) p (s.data.toList.drop p)).map (l ++ ·)
theorem rtok_new (w : World) (k a : Int) (t : ByteArray) : ∀ (j : Nat) (u : Value), [Value.int .i64 k, Value.string t, Value.int .i64 a][j]? = some u → (w.alloc (.cells #[.int .i64 k, .string t, .int .i64 a] 44)).cell? (Addr.add ⟨w.heap.size, 0, none⟩ j) = some u := by
  intro j u hj
  match j, hj with
  | 0, hj => simp at hj; subst hj; simp [Addr.add, go_sem]
  | 1, hj => simp at hj; subst hj; simp [Addr.add, go_sem]
  | 2, hj => simp at hj; subst hj; simp [Addr.add, go_sem]
  | n + 3, hj => simp at hj
set_option maxHeartbeats 8000000 in
set_option maxRecDepth 100000 in
theorem rlex_any (s : ByteArray) (w : World) (hs : s.size ≤ 4000) :
    Calls Try.prog 12 #[.string s] w (RxPost (lexL s.data.toList) s.size w) := by
  have hs' : (s.size : Int) ≤ 4000 := by omega
  have H0 : Hid (RxR w (lexL s.data.toList) s 0 [] (.slice (some ⟨w.heap.size, 0, none⟩) 0 0) (w.alloc (.cells #[] 44))) := Lib.hid ⟨by
    have := World.ownsRow_made w #[] 0 (base := w.heap.size) (e := 44) (size := 3) (Nat.le_refl _) (by decide) rfl
    simpa [tokRow] using this, (Below.refl _ _).alloc (Nat.le_refl _) _, by
    unfold lexL
    rw [ba_sz, List.drop_zero, show rxL [] = true from rfl]
    cases lexF (s.size + 1) true 0 s.data.toList <;> rfl⟩
  generalize lexL s.data.toList = X at *
  obtain ⟨i0, hi, hz0, hz1, hz2⟩ := info_parts Try.infoRTok
  go_enter Try.func12, Try.ntmps12
  go_wp2_with fail
  go_loopw [5, 6] (fun tv iv wr => ∃ (p : Nat) (l : List Tok), p ≤ s.size ∧ l.length ≤ p ∧ iv = .int .i64 p ∧ Hid (RxR w X s p l tv wr)) (fun _ iv _ => s.size - (intOf iv).toNat)
  case atStart => exact ⟨0, [], Nat.zero_le _, Nat.le_refl _, rfl, H0⟩
  case round =>
    obtain ⟨p, l, hp, hl, rfl, HX⟩ := hrel
    obtain ⟨ta, tc, rfl⟩ := own_form HX.out.row
    by_cases hlt : p < s.size
    · have hd := drop_at s p hlt
      by_cases hb : (s[p].toNat : Int) = 32 ∨ (s[p].toNat : Int) = 9 ∨ (s[p].toNat : Int) = 13
      · have HN : Hid (RxR w X s (p + 1) l (.slice ta l.length tc) wr) := Lib.hid ⟨HX.out.row, HX.out.below, by
          have hc : s[p] = 32 ∨ s[p] = 9 ∨ s[p] = 13 := hb.imp (nat_of (by decide)) (Or.imp (nat_of (by decide)) (nat_of (by decide)))
          have h := HX.out.eq
          rw [lexF_skip (k := 1) (by rw [hd, blank_one hc]; rfl), List.drop_drop] at h
          exact h⟩
        clear HX hd
        rcases hb with h1 | h1 | h1
        all_goals
          go_wp2_with fail
          go_roundw
          case rel => exact ⟨p + 1, l, by omega, by omega, by go_num, HN⟩
          case measure => simp [intOf]; omega
      · have b1 : ((s[p].toNat : Int) == 32) = false := by rw [beq_eq_false_iff_ne]; exact fun h => hb (.inl h)
        have b2 : ((s[p].toNat : Int) == 9) = false := by rw [beq_eq_false_iff_ne]; exact fun h => hb (.inr (.inl h))
        have b3 : ((s[p].toNat : Int) == 13) = false := by rw [beq_eq_false_iff_ne]; exact fun h => hb (.inr (.inr h))
        have c1 : ¬ (s[p] = 32 ∨ s[p] = 9 ∨ s[p] = 13) := fun h => hb (h.imp (fun e => by rw [e]; rfl) (Or.imp (fun e => by rw [e]; rfl) (fun e => by rw [e]; rfl)))
        clear hb
        by_cases h35 : s[p] = 35
        · have H35 := Lib.hid (show (s[p].toNat : Int) = 35 by rw [h35]; rfl)
          obtain ⟨E, hE⟩ : ∃ E, p + cmtL (s.data.toList.drop p) = E := ⟨_, rfl⟩
          have hEl := cmt_le (s.data.toList.drop p)
          rw [List.length_drop, ba_sz] at hEl
          have hpE : p < E := by
            have : 0 < cmtL (s.data.toList.drop p) := by rw [hd, h35]; unfold cmtL; rw [List.takeWhile_cons, if_pos (by decide)]; simp
            omega
          have HN : Hid (RxR w X s E l (.slice ta l.length tc) wr) := Lib.hid ⟨HX.out.row, HX.out.below, by
            have h := HX.out.eq
            rw [lexF_skip (k := cmtL (s.data.toList.drop p)) (by rw [hd, h35]; exact blank_cmt), List.drop_drop, hE] at h
            exact h⟩
          have HC : Hid (E = p + ((s.data.toList.drop p).takeWhile (· != 10)).length) := Lib.hid (by rw [← hE]; rfl)
          have hEs : E ≤ s.size := by omega
          clear HX hd hE hEl c1
          have h35i := H35.out
          go_wp2_with fail
          go_loopw [6] (fun iv wx => ∃ k : Nat, k ≤ s.size ∧ iv = .int .i64 k ∧ wx = wr ∧ Hid (E = k + ((s.data.toList.drop k).takeWhile (· != 10)).length)) (fun iv _ => s.size - (intOf iv).toNat)
          case atStart => exact ⟨p, by omega, by first | rfl | trivial, by first | rfl | trivial, HC⟩
          case round =>
            obtain ⟨k, hk, rfl, rfl, HK⟩ := hrel
            by_cases hkl : k < s.size
            · by_cases h10 : (s[k].toNat : Int) = 10
              · have hkE : k = E := by have := HK.out; rw [tw_stop _ s k (fun _ => by rw [nat_of (n := 10) (by decide) h10]; rfl)] at this; omega
                have bne : ((s[k].toNat : Int) != 10) = false := by rw [h10]; rfl
                subst hkE
                clear HK h35i h10
                go_wp2_with fail
                go_roundw
                case rel => exact ⟨k, l, by omega, by omega, by go_num, HN⟩
                case measure => simp [intOf]; omega
              · have bne : ((s[k].toNat : Int) != 10) = true := by simpa using h10
                have HK2 : Hid (E = (k + 1) + ((s.data.toList.drop (k + 1)).takeWhile (· != 10)).length) := Lib.hid (by
                  have := HK.out; rw [tw_step _ s k hkl (by rw [bne_iff_ne]; intro e; exact h10 (by rw [e]; rfl))] at this; omega)
                clear HK h35i
                go_wp2_with fail
                go_roundw
                case rel => exact ⟨k + 1, by omega, by go_num, by first | rfl | trivial, HK2⟩
                case measure => simp [intOf]; omega
            · have hkE : k = E := by have := HK.out; rw [tw_stop _ s k (fun h => absurd h hkl)] at this; omega
              subst hkE
              clear HK h35i
              go_wp2_with fail
              go_roundw
              case rel => exact ⟨k, l, by omega, by omega, by go_num, HN⟩
              case measure => simp [intOf]; omega
        · have b35 : ((s[p].toNat : Int) == 35) = false := bnat (n := 35) (by decide) h35
          by_cases h92 : s[p] = 92 ∧ ∃ h : p + 1 < s.size, s[p + 1] = 10
          · obtain ⟨h92, hp1, hn⟩ := h92
            have h92i : (s[p].toNat : Int) = 92 := by rw [h92]; rfl
            have hni : (s[p + 1].toNat : Int) = 10 := by rw [hn]; rfl
            have q1 : (p : Int) + 1 < (s.size : Int) := by omega
            have HN : Hid (RxR w X s (p + 2) l (.slice ta l.length tc) wr) := Lib.hid ⟨HX.out.row, HX.out.below, by
              have h := HX.out.eq
              have hh : (s.data.toList.drop (p + 1)).head? = some 10 := by rw [drop_at s (p + 1) hp1, hn]; rfl
              rw [lexF_skip (k := 2) (by rw [hd, h92, blank_two hh]; simp), List.drop_drop] at h
              exact h⟩
            clear HX hd c1 h92 hn
            go_wp2_with fail
            go_roundw
            case rel => exact ⟨p + 2, l, by omega, by omega, by go_num, HN⟩
            case measure => simp [intOf]; omega
          · have hbl : blankL (s.data.toList.drop p) = 0 := by
              rw [hd]
              by_cases h : s[p] = 92
              · rw [h]
                refine blank_two0 (fun e => h92 ⟨h, ?_⟩)
                rw [head_drop] at e
                split at e
                · rename_i h1; exact ⟨h1, Option.some.inj e⟩
                · cases e
              · exact blank_no c1 h h35
            have RO := Lib.hid fun W (hb : Below wr.heap.size wr W) => rone_any w.heap.size s p (.slice ta l.length tc) l W (own_below HX.out.row hb (Nat.le_refl _)) (by omega) (by omega) hlt
            have hst0 := (step_le (rxL l) (s.data.toList.drop p))
            rw [List.length_drop, ba_sz] at hst0
            have hne : stepL (rxL l) (s.data.toList.drop p) ≠ .eof := fun e => by have := step_eof e; rw [hd] at this; cases this
            have hd0 : (s.data.toList.drop p).drop (blankL (s.data.toList.drop p)) = s.data.toList.drop p := by rw [hbl, List.drop_zero]
            have BSL : (((s[p].toNat : Int) == 92) = false) ∨ (((s[p].toNat : Int) == 92) = true ∧ ¬ (p : Int) + 1 < (s.size : Int)) ∨ (((s[p].toNat : Int) == 92) = true ∧ ∃ h : p + 1 < s.size, ((s[p + 1].toNat : Int) == 10) = false) := by
              by_cases h : s[p] = 92
              · have h92i : ((s[p].toNat : Int) == 92) = true := by rw [h]; rfl
                by_cases hp1 : p + 1 < s.size
                · exact .inr (.inr ⟨h92i, hp1, bnat (n := 10) (by decide) (fun e => h92 ⟨h, hp1, e⟩)⟩)
                · exact .inr (.inl ⟨h92i, by omega⟩)
              · exact .inl (bnat (n := 92) (by decide) h)
            cases hst : stepL (rxL l) (s.data.toList.drop p) with
            | eof => exact absurd hst hne
            | bad b =>
              have hbz := hst0.2 _ hst
              have hX : X = .error (p + b) := by
                have h := HX.out.eq
                rw [lexF_bad (by rw [hd0]; exact hst) (by omega), hbl] at h
                rw [h]; rfl
              rw [hst] at RO
              have HE := Lib.hid hX
              have HB := Lib.hid HX.out.below
              clear HX hX hst hst0 hne hd0 hbl hd c1
              rcases BSL with q0 | ⟨q0, q1⟩ | ⟨q0, q1, q2⟩
              · by_cases hb0 : b = 0
                · subst hb0
                  (try have q1i : (p : Int) + 1 < (s.size : Int) := by omega)
                  go_wp2_with fail
                  refine (RO.out _ (Below.refl _ _)).mono ?_
                  rintro e w8 ⟨⟨k8, t8, a8, h8⟩, hb8⟩
                  rw [if_pos rfl] at h8
                  subst h8
                  have HB8 := Lib.hid (HB.out.trans (hb8.mono HB.out.size))
                  clear hb8
                  go_wp2_with fail
                  rw [HE.out, Nat.add_zero]
                  refine bodyPost_ret (v := .tuple #[.slice none 0 0, .int .i64 (p : Int), .int .i64 9]) ?_ rfl ⟨rfl, HB8.out.alloc HB8.out.size _⟩
                  simp [results, Try.results12, go_sem]
                · obtain ⟨Q, hQ⟩ : ∃ Q, p + b = Q := ⟨_, rfl⟩
                  rw [hQ] at HE
                  (try have q1i : (p : Int) + 1 < (s.size : Int) := by omega)
                  have HQ := Lib.hid hQ
                  clear hQ
                  go_wp2_with fail
                  refine (RO.out _ (Below.refl _ _)).mono ?_
                  rintro e w8 ⟨⟨k8, t8, a8, h8⟩, hb8⟩
                  rw [if_neg hb0, HQ.out] at h8
                  obtain ⟨M, hM⟩ : ∃ M : Int, -2 - (Q : Int) = M := ⟨_, rfl⟩
                  rw [hM] at h8
                  subst h8
                  have m1 : M < 0 := by omega
                  have m2 : M < -1 := by omega
                  have m3 : -2 - M = (Q : Int) := by omega
                  have m4 : wrap64 (Q : Int) = (Q : Int) := by have := HQ.out; unfold wrap64; omega
                  have HB8 := Lib.hid (HB.out.trans (hb8.mono HB.out.size))
                  clear hb8 hM
                  go_wp2_with fail
                  rw [HE.out]
                  refine bodyPost_ret (v := .tuple #[.slice none 0 0, .int .i64 (Q : Int), .int .i64 9]) ?_ rfl ⟨rfl, HB8.out.alloc HB8.out.size _⟩
                  simp [results, Try.results12, go_sem, m4]
              · by_cases hb0 : b = 0
                · subst hb0
                  (try have q1i : (p : Int) + 1 < (s.size : Int) := by omega)
                  go_wp2_with fail
                  refine (RO.out _ (Below.refl _ _)).mono ?_
                  rintro e w8 ⟨⟨k8, t8, a8, h8⟩, hb8⟩
                  rw [if_pos rfl] at h8
                  subst h8
                  have HB8 := Lib.hid (HB.out.trans (hb8.mono HB.out.size))
                  clear hb8
                  go_wp2_with fail
                  rw [HE.out, Nat.add_zero]
                  refine bodyPost_ret (v := .tuple #[.slice none 0 0, .int .i64 (p : Int), .int .i64 9]) ?_ rfl ⟨rfl, HB8.out.alloc HB8.out.size _⟩
                  simp [results, Try.results12, go_sem]
                · exfalso; omega
              · by_cases hb0 : b = 0
                · subst hb0
                  (try have q1i : (p : Int) + 1 < (s.size : Int) := by omega)
                  go_wp2_with fail
                  refine (RO.out _ (Below.refl _ _)).mono ?_
                  rintro e w8 ⟨⟨k8, t8, a8, h8⟩, hb8⟩
                  rw [if_pos rfl] at h8
                  subst h8
                  have HB8 := Lib.hid (HB.out.trans (hb8.mono HB.out.size))
                  clear hb8
                  go_wp2_with fail
                  rw [HE.out, Nat.add_zero]
                  refine bodyPost_ret (v := .tuple #[.slice none 0 0, .int .i64 (p : Int), .int .i64 9]) ?_ rfl ⟨rfl, HB8.out.alloc HB8.out.size _⟩
                  simp [results, Try.results12, go_sem]
                · obtain ⟨Q, hQ⟩ : ∃ Q, p + b = Q := ⟨_, rfl⟩
                  rw [hQ] at HE
                  (try have q1i : (p : Int) + 1 < (s.size : Int) := by omega)
                  have HQ := Lib.hid hQ
                  clear hQ
                  go_wp2_with fail
                  refine (RO.out _ (Below.refl _ _)).mono ?_
                  rintro e w8 ⟨⟨k8, t8, a8, h8⟩, hb8⟩
                  rw [if_neg hb0, HQ.out] at h8
                  obtain ⟨M, hM⟩ : ∃ M : Int, -2 - (Q : Int) = M := ⟨_, rfl⟩
                  rw [hM] at h8
                  subst h8
                  have m1 : M < 0 := by omega
                  have m2 : M < -1 := by omega
                  have m3 : -2 - M = (Q : Int) := by omega
                  have m4 : wrap64 (Q : Int) = (Q : Int) := by have := HQ.out; unfold wrap64; omega
                  have HB8 := Lib.hid (HB.out.trans (hb8.mono HB.out.size))
                  clear hb8 hM
                  go_wp2_with fail
                  rw [HE.out]
                  refine bodyPost_ret (v := .tuple #[.slice none 0 0, .int .i64 (Q : Int), .int .i64 9]) ?_ rfl ⟨rfl, HB8.out.alloc HB8.out.size _⟩
                  simp [results, Try.results12, go_sem, m4]
            | tok k t z =>
              obtain ⟨hz0', hz1'⟩ := hst0.1 _ _ _ hst
              have hX : X = (lexF (s.size + 1) (rxL (l ++ [⟨k, t, p⟩])) (p + z) (s.data.toList.drop (p + z))).map ((l ++ [⟨k, t, p⟩]) ++ ·) := by
                have h := HX.out.eq
                rw [lexF_tok (by rw [hd0]; exact hst) (by rw [List.length_drop, ba_sz]; omega), hbl, Nat.add_zero, Nat.zero_add, List.drop_drop] at h
                rw [h, rxL_snoc]
                cases lexF (s.size + 1) (rxA k t) (p + z) (s.data.toList.drop (p + z)) with
                | error e => rfl
                | ok r => simp [Except.map]
              rw [hst] at RO
              have HE := Lib.hid hX
              clear hX hst hst0 hne hd0 hbl hd c1
              obtain ⟨Q, hQ⟩ : ∃ Q, p + z = Q := ⟨_, rfl⟩
              rw [hQ] at HE
              have HQ := Lib.hid hQ
              have hQs : Q ≤ s.size := by omega
              have hQp : p < Q := by omega
              have hQi : ¬ (Q : Int) < 0 := by omega
              clear hQ
              rcases BSL with q0 | ⟨q0, q1⟩ | ⟨q0, q1, q2⟩
              · (try have q1i : (p : Int) + 1 < (s.size : Int) := by omega)
                go_wp2_with fail
                refine (RO.out _ (Below.refl _ _)).mono ?_
                rintro e w8 ⟨h8, hb8⟩
                obtain rfl : e = .returned (.tuple #[.agg #[.int .i64 k, .string ⟨t.toArray⟩, .int .i64 p], .int .i64 ((p + z : Nat) : Int)]) := h8
                rw [HQ.out]
                have row8 := Lib.hid (own_below HX.out.row hb8 (Nat.le_refl _))
                have B8 := Lib.hid (HX.out.below.trans (hb8.mono HX.out.below.size))
                clear hb8
                have NEW := Lib.hid (rtok_new (w8.alloc (.cells #[.int .i64 (k : Int), .string ⟨t.toArray⟩, .int .i64 (p : Int)] 44)) k p ⟨t.toArray⟩)
                go_wp2_with (at_builtin; refine wpList_append_own _ rfl (.tmp 79) (.tmp 81) 27 rfl w.heap.size 44 i0 (.agg #[.int .i64 0, .string ⟨#[]⟩, .int .i64 0]) 3 32 Try.underlying27 hi hz0 hz1 hz2 rfl (by decide) _ l.length (tokRow l) rfl ((row8.out.alloc (.cells #[.int .i64 (k : Int), .string ⟨t.toArray⟩, .int .i64 (p : Int)] 44)).alloc _) ⟨w8.heap.size + 1, 0, none⟩ 1 1 [.int .i64 k, .string ⟨t.toArray⟩, .int .i64 p] rfl rfl ?a21 ?b21 ?c21 ?d21 ?e21 ?_)
                try (case a21 => simpa using NEW.out)
                case b21 => simp [Value.oneCell']
                case c21 => unfold maxLen; omega
                case d21 => omega
                case e21 => have := B8.out.size; simp; omega
                intro v9 w9 hown9 hgrow9 _
                have HN : Hid (RxR w X s Q (l ++ [⟨k, t, p⟩]) v9 w9) := Lib.hid ⟨by rw [tokRow_append, List.length_append]; exact hown9, ((B8.out.alloc B8.out.size _).alloc (by have := B8.out.size; simp; omega) _).grown hgrow9 (by have := B8.out.size; simp; omega) (fun q e => (own_base row8.out q e).1), HE.out⟩
                clear hown9 hgrow9 HX NEW row8 B8 HE RO
                go_wp2_with fail
                go_roundw
                case rel => exact ⟨Q, l ++ [⟨k, t, p⟩], by omega, by rw [List.length_append]; simp; omega, by go_num, HN⟩
                case measure => simp [intOf]; omega
              · (try have q1i : (p : Int) + 1 < (s.size : Int) := by omega)
                go_wp2_with fail
                refine (RO.out _ (Below.refl _ _)).mono ?_
                rintro e w8 ⟨h8, hb8⟩
                obtain rfl : e = .returned (.tuple #[.agg #[.int .i64 k, .string ⟨t.toArray⟩, .int .i64 p], .int .i64 ((p + z : Nat) : Int)]) := h8
                rw [HQ.out]
                have row8 := Lib.hid (own_below HX.out.row hb8 (Nat.le_refl _))
                have B8 := Lib.hid (HX.out.below.trans (hb8.mono HX.out.below.size))
                clear hb8
                have NEW := Lib.hid (rtok_new (w8.alloc (.cells #[.int .i64 (k : Int), .string ⟨t.toArray⟩, .int .i64 (p : Int)] 44)) k p ⟨t.toArray⟩)
                go_wp2_with (at_builtin; refine wpList_append_own _ rfl (.tmp 79) (.tmp 81) 27 rfl w.heap.size 44 i0 (.agg #[.int .i64 0, .string ⟨#[]⟩, .int .i64 0]) 3 32 Try.underlying27 hi hz0 hz1 hz2 rfl (by decide) _ l.length (tokRow l) rfl ((row8.out.alloc (.cells #[.int .i64 (k : Int), .string ⟨t.toArray⟩, .int .i64 (p : Int)] 44)).alloc _) ⟨w8.heap.size + 1, 0, none⟩ 1 1 [.int .i64 k, .string ⟨t.toArray⟩, .int .i64 p] rfl rfl ?a22 ?b22 ?c22 ?d22 ?e22 ?_)
                try (case a22 => simpa using NEW.out)
                case b22 => simp [Value.oneCell']
                case c22 => unfold maxLen; omega
                case d22 => omega
                case e22 => have := B8.out.size; simp; omega
                intro v9 w9 hown9 hgrow9 _
                have HN : Hid (RxR w X s Q (l ++ [⟨k, t, p⟩]) v9 w9) := Lib.hid ⟨by rw [tokRow_append, List.length_append]; exact hown9, ((B8.out.alloc B8.out.size _).alloc (by have := B8.out.size; simp; omega) _).grown hgrow9 (by have := B8.out.size; simp; omega) (fun q e => (own_base row8.out q e).1), HE.out⟩
                clear hown9 hgrow9 HX NEW row8 B8 HE RO
                go_wp2_with fail
                go_roundw
                case rel => exact ⟨Q, l ++ [⟨k, t, p⟩], by omega, by rw [List.length_append]; simp; omega, by go_num, HN⟩
                case measure => simp [intOf]; omega
              · (try have q1i : (p : Int) + 1 < (s.size : Int) := by omega)
                go_wp2_with fail
                refine (RO.out _ (Below.refl _ _)).mono ?_
                rintro e w8 ⟨h8, hb8⟩
                obtain rfl : e = .returned (.tuple #[.agg #[.int .i64 k, .string ⟨t.toArray⟩, .int .i64 p], .int .i64 ((p + z : Nat) : Int)]) := h8
                rw [HQ.out]
                have row8 := Lib.hid (own_below HX.out.row hb8 (Nat.le_refl _))
                have B8 := Lib.hid (HX.out.below.trans (hb8.mono HX.out.below.size))
                clear hb8
                have NEW := Lib.hid (rtok_new (w8.alloc (.cells #[.int .i64 (k : Int), .string ⟨t.toArray⟩, .int .i64 (p : Int)] 44)) k p ⟨t.toArray⟩)
                go_wp2_with (at_builtin; refine wpList_append_own _ rfl (.tmp 79) (.tmp 81) 27 rfl w.heap.size 44 i0 (.agg #[.int .i64 0, .string ⟨#[]⟩, .int .i64 0]) 3 32 Try.underlying27 hi hz0 hz1 hz2 rfl (by decide) _ l.length (tokRow l) rfl ((row8.out.alloc (.cells #[.int .i64 (k : Int), .string ⟨t.toArray⟩, .int .i64 (p : Int)] 44)).alloc _) ⟨w8.heap.size + 1, 0, none⟩ 1 1 [.int .i64 k, .string ⟨t.toArray⟩, .int .i64 p] rfl rfl ?a23 ?b23 ?c23 ?d23 ?e23 ?_)
                try (case a23 => simpa using NEW.out)
                case b23 => simp [Value.oneCell']
                case c23 => unfold maxLen; omega
                case d23 => omega
                case e23 => have := B8.out.size; simp; omega
                intro v9 w9 hown9 hgrow9 _
                have HN : Hid (RxR w X s Q (l ++ [⟨k, t, p⟩]) v9 w9) := Lib.hid ⟨by rw [tokRow_append, List.length_append]; exact hown9, ((B8.out.alloc B8.out.size _).alloc (by have := B8.out.size; simp; omega) _).grown hgrow9 (by have := B8.out.size; simp; omega) (fun q e => (own_base row8.out q e).1), HE.out⟩
                clear hown9 hgrow9 HX NEW row8 B8 HE RO
                go_wp2_with fail
                go_roundw
                case rel => exact ⟨Q, l ++ [⟨k, t, p⟩], by omega, by rw [List.length_append]; simp; omega, by go_num, HN⟩
                case measure => simp [intOf]; omega
    · obtain rfl : p = s.size := by omega
      have hX : X = .ok l := by
        have h := HX.out.eq
        rw [drop_end s s.size (Nat.le_refl _), lexF_eof (by rfl)] at h
        rw [h]; simp [Except.map]
      have HE := Lib.hid hX
      clear hX
      have NEW := Lib.hid (rtok_new wr 0 (s.size : Int) ⟨#[]⟩)
      go_wp2_with (at_builtin; refine wpList_append_own _ rfl (.tmp 84) (.tmp 88) 27 rfl w.heap.size 44 i0 (.agg #[.int .i64 0, .string ⟨#[]⟩, .int .i64 0]) 3 32 Try.underlying27 hi hz0 hz1 hz2 rfl (by decide) _ l.length (tokRow l) rfl (HX.out.row.alloc _) ⟨wr.heap.size, 0, none⟩ 1 1 [.int .i64 0, .string ⟨#[]⟩, .int .i64 s.size] rfl rfl ?a1 ?b1 ?c1 ?d1 ?e1 ?_)
      try (case a1 => exact NEW.out)
      case b1 => simp [Value.oneCell']
      case c1 => unfold maxLen; omega
      case d1 => omega
      case e1 => have := HX.out.below.size; simp; omega
      intro v9 w9 hown9 hgrow9 _
      obtain ⟨g, c, rfl⟩ := own_succ hown9
      have HB9 := Lib.hid ((HX.out.below.alloc HX.out.below.size (.cells #[.int .i64 0, .string ⟨#[]⟩, .int .i64 (s.size : Int)] 44)).grown hgrow9 (by have := HX.out.below.size; simp; omega) (fun q e => (own_base HX.out.row q e).1))
      have HR9 : Hid (w9.ownsRow w.heap.size 44 3 (.slice (some ⟨g, 0, none⟩) (l.length + 1) c) (l.length + 1) (tokRow (l ++ [endT s.size]))) := Lib.hid (by
        rw [tokRow_append]; exact hown9)
      clear hown9 hgrow9 HX NEW
      go_wp2_with fail
      rw [HE.out]
      refine bodyPost_ret (v := .tuple #[.slice (some ⟨g, 0, none⟩) (l.length + 1) c, .int .i64 0, .int .i64 0]) ?_ rfl ⟨⟨g, c, rfl, HR9.out⟩, HB9.out⟩
      simp [results, Try.results12, go_sem]
end Go.Proofs.Ytfmjajmdkndknaa
