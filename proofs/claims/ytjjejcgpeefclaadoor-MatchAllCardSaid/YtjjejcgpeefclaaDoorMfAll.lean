/-
  CONTRACT of the document's own search (scriberef10): All.
-/
import Derived.Test.YtjjejcgpeefclaaDoorMfF
import Derived.Test.YtjjejcgpeefclaaDoorMtAl
namespace Go.Proofs.YtjjejcgpeefclaaDoor
open Go.RowKit

def prs : List (Nat × Nat) → List Value
  | [] => []
  | x :: l => .int .i64 (x.1 : Int) :: .int .i64 (x.2 : Int) :: prs l
theorem prs_append : ∀ l m, prs (l ++ m) = prs l ++ prs m
  | [], _ => rfl
  | x :: l, m => by show _ :: _ :: prs (l ++ m) = _; rw [prs_append l m]; rfl
theorem prs_get : ∀ (l : List (Nat × Nat)) (i : Nat) (x : Nat × Nat), l[i]? = some x → (prs l)[i * 2]? = some (.int .i64 (x.1 : Int)) ∧ (prs l)[i * 2 + 1]? = some (.int .i64 (x.2 : Int))
  | [], i, x, h => by simp at h
  | y :: l, 0, x, h => by
    obtain rfl : y = x := by simpa using h
    exact ⟨rfl, rfl⟩
  | y :: l, i + 1, x, h => by
    have := prs_get l i x (by simpa using h)
    rw [show (i + 1) * 2 = i * 2 + 2 from by omega]
    exact this
theorem Tryd.infoP2 : (Tryd.prog.info? 44).map (fun i => (i.zero, i.size, i.bytes)) = some (some (.agg #[.int .i64 0, .int .i64 0]), 2, 16) := by kernel_rfl
/-- A row of pairs. -/
def RowP2 (w : World) (base g c : Nat) (xs : List (Nat × Nat)) : Prop := w.ownsRow base 44 2 (.slice (some ⟨g, 0, none⟩) xs.length c) xs.length (prs xs)
theorem RowP2.base {w : World} {base g c : Nat} {xs : List (Nat × Nat)} (h : RowP2 w base g c xs) : base ≤ g ∧ g < w.heap.size := rg_own_base h g rfl
theorem RowP2.kept {w w' : World} {base g c : Nat} {xs : List (Nat × Nat)} (h : RowP2 w base g c xs) (hk : w'.heap[g]? = w.heap[g]?) : RowP2 w' base g c xs :=
  rg_own_kept h fun k e => by obtain rfl : g = k := by simpa [Value.ownBlock] using e
                              exact hk
theorem RowP2.next {w w' : World} {base g c : Nat} {xs : List (Nat × Nat)} (h : RowP2 w base g c xs) (hb : Below w.heap.size w w') : RowP2 w' base g c xs := h.kept (hb.block g h.base.2)
theorem RowP2.cell {w : World} {base g c : Nat} {xs : List (Nat × Nat)} (h : RowP2 w base g c xs) {i : Nat} {x : Nat × Nat} (hi : xs[i]? = some x) : w.cell? ⟨g, i * 2, none⟩ = some (.int .i64 (x.1 : Int)) ∧ w.cell? ⟨g, i * 2 + 1, none⟩ = some (.int .i64 (x.2 : Int)) := by
  have hl : i < xs.length := (List.getElem?_eq_some_iff.1 hi).1
  unfold RowP2 at h
  exact ⟨(h.cellAt (i * 2) (by omega)).trans (prs_get xs i x hi).1, (h.cellAt (i * 2 + 1) (by omega)).trans (prs_get xs i x hi).2⟩
theorem Dy.beside {w w' : World} {d : Td} (h : Dy w d) {g : Nat} {cur : Array Value} {ty : TypeId} (hg : w.heap[g]? = some (.cells cur ty (0, 0))) (h1 : 3 ≠ ty) (h2 : 101 ≠ ty) (hk : ∀ b, b < w.heap.size → b ≠ g → w'.heap[b]? = w.heap[b]?) : Dy w' d := by
  have hty : ∀ {b : Nat} {c2 : Array Value} {e : TypeId}, w.heap[b]? = some (.cells c2 e (0, 0)) → e ≠ ty → b ≠ g := fun {b c2 e} hb hne eb => by
    subst eb
    rw [hg] at hb
    injection Option.some.inj hb with _ h3 _
    exact hne h3.symm
  have hK : ∀ {b : Nat} {f : Nat → List Nat}, Kr w d b f → Kr w' d b f := fun {b f} hr => by
    obtain ⟨arr, a1, a2, a3⟩ := hr
    refine ⟨arr, (hk b (Array.getElem?_eq_some_iff.1 a1).1 (hty a1 h2)).trans a1, a2, fun a v hv => ?_⟩
    rcases a3 a v hv with h | ⟨g2, c, q1, q2, q3⟩
    · exact .inl h
    · obtain ⟨cur2, hc2⟩ := own_type q2 (g := g2) rfl
      exact .inr ⟨g2, c, q1, q2.kept (hk g2 q2.base.2 (hty hc2 h1)), q3⟩
  exact ⟨fun k t ht => hK (h.e k t ht), fun k t ht => hK (h.o k t ht)⟩
/-- What All answers. -/
def AlP (w : World) (s : ByteArray) (t : RT) (e : Ending) (w' : World) : Prop := ∃ g c xs, e = .returned (.slice (some ⟨g, 0, none⟩) xs.length c) ∧ AllS s t xs ∧ RowP2 w' w.heap.size g c xs ∧ Below w.heap.size w w'
theorem fnd_end {s : ByteArray} {t : RT} {a : Nat} (h : s.size < a) : FndIs s t a none := fun i hi j hm => by have := hm.le2; omega
theorem fd_nat {s : ByteArray} {t : RT} {a : Nat} {r : Option (Nat × Nat)} (ha : a ≤ s.size) (h : FdIs s t (a : Int) r) : FndIs s t a r := by
  unfold FdIs at h
  rw [if_pos ⟨by omega, by omega⟩] at h
  simpa using h
theorem last_get {xs : List (Nat × Nat)} (h : xs ≠ []) : ∃ x, xs[xs.length - 1]? = some x ∧ lastOf xs = x.2 := by
  refine ⟨xs.getLast h, ?_, ?_⟩
  · rw [← List.getLast?_eq_getElem?, List.getLast?_eq_some_getLast h]
  · unfold lastOf; rw [List.getLast?_eq_some_getLast h]
/-- Of the path's end. -/
theorem Pth.last {s : ByteArray} {t : RT} {xs : List (Nat × Nat)} {a : Nat} {told : Option Nat} (h : Pth s t xs a told) : (xs = [] ∧ told = none) ∨ ∃ x, xs[xs.length - 1]? = some x ∧ told = some x.2 := by
  obtain ⟨_, _, h3⟩ := h.inv
  rcases h3 with ⟨h3, h4, _⟩ | ⟨h3, h4, _⟩
  · exact .inl ⟨h4, h3⟩
  · obtain ⟨x, hx, hl⟩ := last_get h3
    exact .inr ⟨x, hx, by rw [h4, hl]⟩
set_option maxHeartbeats 4000000 in
set_option maxRecDepth 100000 in
theorem rAll_any {t : RT} {nd : RNd} {B : Nat → Prop} (s : ByteArray) (hs : s.size ≤ 100) (hsz : sizeN t ≤ 100000) (hshp : t.Shp) (hfine : t.Fine) {w : World} (htr : TreeM w B t nd) :
    Calls Tryd.prog 18 #[nd.val, .string s] w (AlP w s t) := by
  obtain ⟨i0, hi0, hz0, hz1, hz2⟩ := info_parts Tryd.infoP2
  obtain ⟨W1, hW1⟩ : ∃ W1, w.alloc (.cells #[.int .i64 nd.op, .string nd.set, .slice nd.kp nd.kn nd.kc] 30) = W1 := ⟨_, rfl⟩
  have hb1 : Below w.heap.size w W1 := by rw [← hW1]; exact (Below.refl _ _).alloc (Nat.le_refl _) _
  have hx1 : W1.heap[w.heap.size]? = some (.cells #[.int .i64 nd.op, .string nd.set, .slice nd.kp nd.kn nd.kc] 30 (0, 0)) := by rw [← hW1]; exact mt_heap_new _ _
  have HC := Lib.hid (rLay_any s hs hsz hshp hfine (htr.below hb1))
  unfold RNd.val at HC ⊢
  have x0 : W1.cell? ⟨w.heap.size, 0, none⟩ = some (.int .i64 nd.op) := rg_cell hx1
  have x1 : W1.cell? ⟨w.heap.size, 1, none⟩ = some (.string nd.set) := rg_cell hx1
  have x2 : W1.cell? ⟨w.heap.size, 2, none⟩ = some (.slice nd.kp nd.kn nd.kc) := rg_cell hx1
  have HB1 := Lib.hid hb1
  have HW1 := Lib.hid hW1
  have hsi : (s.size : Int) ≤ 100 := by omega
  clear hb1 hx1 hW1 htr
  go_enter Tryd.func18, Tryd.ntmps18
  go_upto_region 1 with fail
  rw [HW1.out]
  clear HW1
  go_wp2_with fail
  refine HC.out.mono ?_
  rintro e w3 ⟨d, rfl, hd2, hd3, hd4, hd5, hd6, hd7, hb3⟩
  have HOK := Lib.hid hd4
  have HDST := Lib.hid (And.intro hd2 hd3)
  have HF := Lib.hid hd7
  have HFL : Hid (∀ g, d.F g → g < w3.heap.size) := Lib.hid fun g hg => hd6.flt hg
  have HST := Lib.hid hd5
  have HDY := Lib.hid hd6
  have HB3 := Lib.hid (HB1.out.trans (hb3.mono HB1.out.size))
  have hw3 := HB3.out.size
  have HW13 := Lib.hid HB1.out.size
  obtain ⟨W4, hW4⟩ : ∃ W4, w3.alloc (.cells #[] 44) = W4 := ⟨_, rfl⟩
  have hb4 : Below w3.heap.size w3 W4 := by rw [← hW4]; exact (Below.refl _ _).alloc (Nat.le_refl _) _
  have hr4 : RowP2 W4 w3.heap.size w3.heap.size 0 [] := by
    rw [← hW4]
    have h := World.ownsRow_lit (size := 2) (base := w3.heap.size) (e := 44) w3 #[] 0 (Nat.le_refl _) (by unfold maxLen; omega) (by simp)
    simpa [RowP2, prs] using h
  have HDY4 : Hid (Dy W4 d ∧ Chg d.F w3 W4) := Lib.hid ⟨hd6.next hb4, Chg.of_below hb4 (Nat.le_refl _)⟩
  have HBB4 := Lib.hid (HB3.out.trans (hb4.mono hw3))
  have HR4 := Lib.hid hr4
  have HW4 := Lib.hid hW4
  clear hd2 hd3 hd4 hd5 hd6 hd7 hb3 hb4 hr4 hW4 HC x0 x1 x2 HB1 HB3
  go_upto_region 3 with fail
  rw [HW4.out]
  clear HW4
  go_wp2_with fail
  go_loopw [6, 7, 8] (fun ov av kv wr => ∃ (xs : List (Nat × Nat)) (a : Nat) (told : Option Nat) (k g c : Nat), a ≤ s.size + 1 ∧ k ≤ a ∧ xs.length ≤ a ∧ ov = .slice (some ⟨g, 0, none⟩) xs.length c ∧ av = .int .i64 (a : Int) ∧ kv = .int .i64 (k : Int) ∧ Hid (Pth s t xs a told) ∧ Hid (RowP2 wr w3.heap.size g c xs) ∧ Hid (Dy wr d ∧ Chg d.F w3 wr) ∧ Hid (Below w.heap.size w wr))
    (fun _ av _ _ => s.size + 1 - (intOf av).toNat)
  case atStart => exact ⟨[], 0, none, 0, w3.heap.size, 0, by omega, by omega, by simp, rfl, rfl, rfl, Lib.hid .start, HR4, HDY4, HBB4⟩
  case round =>
    obtain ⟨xs, a, told, k, g, c, ha, hka, hxa, rfl, rfl, rfl, HP, HR, HD, HBW⟩ := hrel
    clear HR4 HDY4 HBB4 HDY
    have hki : (k : Int) ≤ 2 * (s.size : Int) + 2 := by omega
    by_cases han : a ≤ s.size
    · have hani : (a : Int) ≤ (s.size : Int) := by omega
      have CF := Lib.hid (rfirst_any HOK.out (a : Int) (by omega) (HST.out.chg HD.out.2) HD.out.1)
      go_wp2_with fail
      refine CF.out.mono ?_
      rintro e w5 ⟨r, rfl, hr, hdy, hch⟩
      rw [HDST.out.1, HDST.out.2] at hr
      have HR5 : Hid (RowP2 w5 w3.heap.size g c xs) := Lib.hid (HR.out.kept (hch.block g HR.out.base.2 (fun hf => by have := HFL.out g hf; have := HR.out.base.1; omega)))
      have HD5 : Hid (Dy w5 d ∧ Chg d.F w3 w5) := Lib.hid ⟨hdy, HD.out.2.then hch⟩
      have HB5 : Hid (Below w.heap.size w w5) := Lib.hid (HBW.out.trans (hch.below HBW.out.size (fun k hk => Nat.le_trans HW13.out (HF.out k hk))))
      have HFN := Lib.hid (fd_nat han hr)
      have hw5 : w3.heap.size ≤ w5.heap.size := HD5.out.2.size
      clear hr hdy hch CF HR HD HBW
      cases r with
      | none =>
        have HZ : Hid (AlP w s t (.returned (.slice (some ⟨g, 0, none⟩) xs.length c)) w5) := Lib.hid ⟨g, c, xs, rfl, ⟨a, told, HP.out, HFN.out⟩, rg_own_less HR5.out hw3, HB5.out⟩
        simp only [fndV]
        clear HP HFN HR5 HD5 HB5
        go_wp2_with fail
        go_ret
        exact HZ.out
      | some q =>
        obtain ⟨i, j⟩ := q
        simp only [fndV]
        obtain ⟨f1, f2, f3⟩ := HFN.out.facts
        have hij : (i : Int) ≤ (j : Int) := by omega
        have hjn : (j : Int) ≤ (s.size : Int) := by omega
        have hxl : xs.length ≤ 1000 := by omega
        by_cases hlt : i < j
        · have hlti : (i : Int) < (j : Int) := by omega
          have HP2 := Lib.hid (Pth.take HP.out HFN.out (fun h => by omega))
          rw [if_neg (show ¬ i = j by omega)] at HP2
          have HRL : Hid (w5.ownsRow w3.heap.size 44 2 (.slice (some ⟨g, 0, none⟩) xs.length c) (xs.length) (prs xs)) := Lib.hid (by have := HR5.out; unfold RowP2 at this; exact this)
          go_wp2_with (at_builtin; refine wpList_append_own_at _ rfl (.tmp 42) (.tmp 46) 39 rfl w3.heap.size 44 i0 (.agg #[.int .i64 0, .int .i64 0]) 2 16 Tryd.underlying39 hi0 hz0 hz1 hz2 rfl (by decide) (.slice (some ⟨g, 0, none⟩) (xs.length) c) (xs.length) (prs xs) rfl (HRL.out.alloc _) ⟨w5.heap.size, 0, none⟩ 1 1 [.int .i64 (i : Int), .int .i64 (j : Int)] rfl rfl ?p1 ?p2 ?p3 ?p4 ?p5 ?_)
          try (case p1 => exact cells_new w5 [.int .i64 (i : Int), .int .i64 (j : Int)] _)
          try (case p2 => simp [Value.oneCell'])
          try (case p3 => unfold maxLen; omega)
          try (case p4 => omega)
          try (case p5 => first | omega | (simp; omega))
          intro v2 w9 hown9 hgrow9 _ _
          obtain ⟨g9, c9, hv9, -⟩ := rg_own_succ hown9
          have hv9 : v2 = .slice (some ⟨g9, 0, none⟩) (xs.length + 1) c9 := hv9
          subst hv9
          have hbg := HR5.out.base
          have hb9 : Below w3.heap.size w5 w9 := ((Below.refl w3.heap.size w5).alloc hw5 _).grown hgrow9 (by simp; omega) (fun b hb => by
            obtain rfl : g = b := by simpa [Value.ownBlock] using hb
            exact hbg.1)
          have hk9 : ∀ b, b < w5.heap.size → b ≠ g → w9.heap[b]? = w5.heap[b]? := fun b hb hne => (hgrow9.block b (by simp; omega) (fun e => hne (by simpa [Value.ownBlock] using e))).trans (Below.heap_alloc _ _ _ hb)
          have HD9 : Hid (Dy w9 d ∧ Chg d.F w3 w9) := Lib.hid ⟨by
            obtain ⟨cur, hcur⟩ := own_type HRL.out (g := g) rfl
            exact HD5.out.1.beside hcur (by decide) (by decide) hk9, ⟨hb9.os.trans HD5.out.2.os, hb9.tape.trans HD5.out.2.tape, hb9.output.trans HD5.out.2.output, Nat.le_trans HD5.out.2.size hb9.size, fun b hb hn => (hb9.block b hb).trans (HD5.out.2.block b hb hn)⟩⟩
          have HB9 : Hid (Below w.heap.size w w9) := Lib.hid (HB5.out.trans (hb9.mono hw3))
          have HL9 : Hid ((xs ++ [(i, j)]).length = xs.length + 1) := Lib.hid (by simp)
          have HR9 : Hid (RowP2 w9 w3.heap.size g9 c9 (xs ++ [(i, j)])) := Lib.hid (by
            unfold RowP2
            rw [HL9.out, prs_append]
            exact hown9)
          clear hown9 hgrow9 hb9 hk9 HR5 HD5 HB5 HRL hbg
          go_wp2_with fail
          go_roundw
          case rel => exact ⟨xs ++ [(i, j)], j, some j, k + 1, g9, c9, by omega, by omega, by have := HL9.out; omega, by rw [HL9.out], rfl, by go_num, HP2, HR9, HD9, HB9⟩
          case measure => simp [intOf]; omega
        · obtain rfl : i = j := by omega
          have hlti : ¬ (i : Int) < (i : Int) := by omega
          rcases HP.out.last with ⟨rfl, rfl⟩ | ⟨y, hy, rfl⟩
          · have HP2 := Lib.hid (Pth.take HP.out HFN.out (fun h => by cases h.2))
            rw [if_pos rfl] at HP2
            have HRL : Hid (w5.ownsRow w3.heap.size 44 2 (.slice (some ⟨g, 0, none⟩) 0 c) (0) (prs [])) := Lib.hid (by have := HR5.out; unfold RowP2 at this; exact this)
            go_wp2_with (at_builtin; refine wpList_append_own_at _ rfl (.tmp 63) (.tmp 67) 39 rfl w3.heap.size 44 i0 (.agg #[.int .i64 0, .int .i64 0]) 2 16 Tryd.underlying39 hi0 hz0 hz1 hz2 rfl (by decide) (.slice (some ⟨g, 0, none⟩) (0) c) (0) (prs []) rfl (HRL.out.alloc _) ⟨w5.heap.size, 0, none⟩ 1 1 [.int .i64 (i : Int), .int .i64 (i : Int)] rfl rfl ?q1 ?q2 ?q3 ?q4 ?q5 ?_)
            try (case q1 => exact cells_new w5 [.int .i64 (i : Int), .int .i64 (i : Int)] _)
            try (case q2 => simp [Value.oneCell'])
            try (case q3 => unfold maxLen; omega)
            try (case q4 => omega)
            try (case q5 => first | omega | (simp; omega))
            intro v2 w9 hown9 hgrow9 _ _
            obtain ⟨g9, c9, hv9, -⟩ := rg_own_succ hown9
            have hv9 : v2 = .slice (some ⟨g9, 0, none⟩) (0 + 1) c9 := hv9
            subst hv9
            have hbg := HR5.out.base
            have hb9 : Below w3.heap.size w5 w9 := ((Below.refl w3.heap.size w5).alloc hw5 _).grown hgrow9 (by simp; omega) (fun b hb => by
              obtain rfl : g = b := by simpa [Value.ownBlock] using hb
              exact hbg.1)
            have hk9 : ∀ b, b < w5.heap.size → b ≠ g → w9.heap[b]? = w5.heap[b]? := fun b hb hne => (hgrow9.block b (by simp; omega) (fun e => hne (by simpa [Value.ownBlock] using e))).trans (Below.heap_alloc _ _ _ hb)
            have HD9 : Hid (Dy w9 d ∧ Chg d.F w3 w9) := Lib.hid ⟨by
              obtain ⟨cur, hcur⟩ := own_type HRL.out (g := g) rfl
              exact HD5.out.1.beside hcur (by decide) (by decide) hk9, ⟨hb9.os.trans HD5.out.2.os, hb9.tape.trans HD5.out.2.tape, hb9.output.trans HD5.out.2.output, Nat.le_trans HD5.out.2.size hb9.size, fun b hb hn => (hb9.block b hb).trans (HD5.out.2.block b hb hn)⟩⟩
            have HB9 : Hid (Below w.heap.size w w9) := Lib.hid (HB5.out.trans (hb9.mono hw3))
            have HL9 : Hid (([] ++ [(i, i)]).length = 0 + 1) := Lib.hid (by simp)
            have HR9 : Hid (RowP2 w9 w3.heap.size g9 c9 ([] ++ [(i, i)])) := Lib.hid (by
              unfold RowP2
              rw [HL9.out, prs_append]
              exact hown9)
            clear hown9 hgrow9 hb9 hk9 HR5 HD5 HB5 HRL hbg
            go_wp2_with fail
            go_roundw
            case rel => exact ⟨[] ++ [(i, i)], i + 1, some i, k + 1, g9, c9, by omega, by omega, by have := HL9.out; omega, by rw [HL9.out], by go_num, by go_num, HP2, HR9, HD9, HB9⟩
            case measure => simp [intOf]; omega
          · obtain ⟨m, hm⟩ : ∃ m, xs.length = m + 1 := ⟨xs.length - 1, by have := (List.getElem?_eq_some_iff.1 hy).1; omega⟩
            rw [hm, Nat.add_sub_cancel] at hy
            have q1 : w5.cell? ⟨g, m * 2 + 1, none⟩ = some (.int .i64 (y.2 : Int)) := (HR5.out.cell hy).2
            have hm0 : ((((m + 1 : Nat) : Int)) == 0) = false := by rw [Bool.eq_false_iff]; intro h; have := eq_of_beq h; omega
            rw [hm]
            have HM := Lib.hid hm
            have hmb : m ≤ 1000 := by omega
            clear hy hm
            by_cases hyi : y.2 = i
            · have hp' : Pth s t xs a (some i) := by have := HP.out; rw [hyi] at this; exact this
              have HP2 := Lib.hid (Pth.skip hp' HFN.out)
              clear hp'
              have hq : ((y.2 : Int) != (i : Int)) = false := by simp [hyi]
              have HYI := Lib.hid hyi
              clear hyi
              go_wp2_with fail
              go_roundw
              case rel => exact ⟨xs, i + 1, some i, k + 1, g, c, by omega, by omega, by omega, by rw [HM.out], by go_num, by go_num, HP2, HR5, HD5, HB5⟩
              case measure => simp [intOf]; omega
            · have HP2 := Lib.hid (Pth.take HP.out HFN.out (fun h => hyi (Option.some.inj h.2)))
              rw [if_pos rfl] at HP2
              have hq : ((y.2 : Int) != (i : Int)) = true := by rw [bne_iff_ne]; intro h; exact hyi (by omega)
              clear hyi
              have HRL : Hid (w5.ownsRow w3.heap.size 44 2 (.slice (some ⟨g, 0, none⟩) (m + 1) c) ((m + 1)) (prs xs)) := Lib.hid (by have := HR5.out; unfold RowP2 at this; rw [HM.out] at this; exact this)
              go_wp2_with (at_builtin; refine wpList_append_own_at _ rfl (.tmp 63) (.tmp 67) 39 rfl w3.heap.size 44 i0 (.agg #[.int .i64 0, .int .i64 0]) 2 16 Tryd.underlying39 hi0 hz0 hz1 hz2 rfl (by decide) (.slice (some ⟨g, 0, none⟩) ((m + 1)) c) ((m + 1)) (prs xs) rfl (HRL.out.alloc _) ⟨w5.heap.size, 0, none⟩ 1 1 [.int .i64 (i : Int), .int .i64 (i : Int)] rfl rfl ?r1 ?r2 ?r3 ?r4 ?r5 ?_)
              try (case r1 => exact cells_new w5 [.int .i64 (i : Int), .int .i64 (i : Int)] _)
              try (case r2 => simp [Value.oneCell'])
              try (case r3 => unfold maxLen; omega)
              try (case r4 => omega)
              try (case r5 => first | omega | (simp; omega))
              intro v2 w9 hown9 hgrow9 _ _
              obtain ⟨g9, c9, hv9, -⟩ := rg_own_succ hown9
              have hv9 : v2 = .slice (some ⟨g9, 0, none⟩) ((m + 1) + 1) c9 := hv9
              subst hv9
              have hbg := HR5.out.base
              have hb9 : Below w3.heap.size w5 w9 := ((Below.refl w3.heap.size w5).alloc hw5 _).grown hgrow9 (by simp; omega) (fun b hb => by
                obtain rfl : g = b := by simpa [Value.ownBlock] using hb
                exact hbg.1)
              have hk9 : ∀ b, b < w5.heap.size → b ≠ g → w9.heap[b]? = w5.heap[b]? := fun b hb hne => (hgrow9.block b (by simp; omega) (fun e => hne (by simpa [Value.ownBlock] using e))).trans (Below.heap_alloc _ _ _ hb)
              have HD9 : Hid (Dy w9 d ∧ Chg d.F w3 w9) := Lib.hid ⟨by
                obtain ⟨cur, hcur⟩ := own_type HRL.out (g := g) rfl
                exact HD5.out.1.beside hcur (by decide) (by decide) hk9, ⟨hb9.os.trans HD5.out.2.os, hb9.tape.trans HD5.out.2.tape, hb9.output.trans HD5.out.2.output, Nat.le_trans HD5.out.2.size hb9.size, fun b hb hn => (hb9.block b hb).trans (HD5.out.2.block b hb hn)⟩⟩
              have HB9 : Hid (Below w.heap.size w w9) := Lib.hid (HB5.out.trans (hb9.mono hw3))
              have HL9 : Hid ((xs ++ [(i, i)]).length = (m + 1) + 1) := Lib.hid (by simp; exact HM.out)
              have HR9 : Hid (RowP2 w9 w3.heap.size g9 c9 (xs ++ [(i, i)])) := Lib.hid (by
                unfold RowP2
                rw [HL9.out, prs_append]
                exact hown9)
              clear hown9 hgrow9 hb9 hk9 HR5 HD5 HB5 HRL hbg
              go_wp2_with fail
              go_roundw
              case rel => exact ⟨xs ++ [(i, i)], i + 1, some i, k + 1, g9, c9, by omega, by omega, by have := HL9.out; have := HM.out; omega, by rw [HL9.out], by go_num, by go_num, HP2, HR9, HD9, HB9⟩
              case measure => simp [intOf]; omega
    · obtain rfl : a = s.size + 1 := by omega
      have hani : ¬ ((s.size + 1 : Nat) : Int) ≤ (s.size : Int) := by omega
      have HZ : Hid (AlP w s t (.returned (.slice (some ⟨g, 0, none⟩) xs.length c)) wr) := Lib.hid ⟨g, c, xs, rfl, ⟨s.size + 1, told, HP.out, fnd_end (Nat.lt_succ_self _)⟩, rg_own_less HR.out hw3, HBW.out⟩
      clear HP HR HD HBW
      go_wp2_with fail
      go_ret
      exact HZ.out
end Go.Proofs.YtjjejcgpeefclaaDoor
