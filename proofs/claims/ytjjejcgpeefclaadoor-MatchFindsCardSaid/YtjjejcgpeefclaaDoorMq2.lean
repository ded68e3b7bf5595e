/-
  CONTRACTS of the document's own reader of patterns (scriberef09): fail, sign, escape.
-/
import Derived.Test.YtjjejcgpeefclaaDoorOrd
namespace Go.Proofs.YtjjejcgpeefclaaDoor
open Go.RowKit

/-- A place in a pattern, as it is handed about. -/
def rsv (s : ByteArray) (at' dp er bd : Int) : Value := .agg #[.string s, .int .i64 at', .int .i64 dp, .int .i64 er, .int .i64 bd]
/-- A place in a pattern lies in block b, free to be written. -/
structure Ss (w : World) (b : Nat) (s : ByteArray) (a dp er bd : Int) : Prop where
  c0 : w.cell? ⟨b, 0, none⟩ = some (.string s)
  c1 : w.cell? ⟨b, 1, none⟩ = some (.int .i64 a)
  c2 : w.cell? ⟨b, 2, none⟩ = some (.int .i64 dp)
  c3 : w.cell? ⟨b, 3, none⟩ = some (.int .i64 er)
  c4 : w.cell? ⟨b, 4, none⟩ = some (.int .i64 bd)
  f0 : w.frozen? ⟨b, 0, none⟩ = false
  f1 : w.frozen? ⟨b, 1, none⟩ = false
  f2 : w.frozen? ⟨b, 2, none⟩ = false
  f3 : w.frozen? ⟨b, 3, none⟩ = false
  f4 : w.frozen? ⟨b, 4, none⟩ = false
section
variable {w w1 : World} {b c B : Nat} {s : ByteArray} {a dp er bd : Int}
theorem Ss.lt (h : Ss w b s a dp er bd) : b < w.heap.size := World.block_lt_of_cell? _ _ h.c0
theorem Ss.kept (h : Ss w b s a dp er bd) (hb : w1.heap[b]? = w.heap[b]?) : Ss w1 b s a dp er bd := by
  have hc : ∀ o, w1.cell? ⟨b, o, none⟩ = w.cell? ⟨b, o, none⟩ := fun o => World.cell?_of_block (w := w) hb
  have hf : ∀ o, w1.frozen? ⟨b, o, none⟩ = w.frozen? ⟨b, o, none⟩ := fun o => World.frozen?_of_block (w := w) hb
  obtain ⟨c0, c1, c2, c3, c4, f0, f1, f2, f3, f4⟩ := h
  constructor <;> (first | rw [hc] | rw [hf]) <;> assumption
theorem Ss.below (h : Ss w b s a dp er bd) (hB : Below B w w1) (hb : b < B) : Ss w1 b s a dp er bd := h.kept (hB.block b hb)
theorem Ss.keep (h : Ss w b s a dp er bd) (hB : Below w.heap.size w w1) : Ss w1 b s a dp er bd := h.below hB h.lt
theorem Ss.drew (h : Ss w b s a dp er bd) : Ss w.drew b s a dp er bd := by
  obtain ⟨c0, c1, c2, c3, c4, f0, f1, f2, f3, f4⟩ := h
  exact ⟨c0, c1, c2, c3, c4, f0, f1, f2, f3, f4⟩
theorem Ss.new (w : World) (T : TypeId) (s : ByteArray) (a dp er bd : Int) : Ss (w.alloc (.cells #[.string s, .int .i64 a, .int .i64 dp, .int .i64 er, .int .i64 bd] T)) w.heap.size s a dp er bd := by
  constructor <;> simp [go_sem]
theorem Ss.set0 (h : Ss w b s a dp er bd) (x : ByteArray) : Ss (w.setCell ⟨b, 0, none⟩ (.string x)) b x a dp er bd := by
  obtain ⟨c0, c1, c2, c3, c4, f0, f1, f2, f3, f4⟩ := h
  constructor <;> first | (rw [World.cell?_setCell_other _ _ _ _ (by simp)]; assumption) | exact World.cell?_setCell_same _ _ _ c0 | simpa
theorem Ss.set1 (h : Ss w b s a dp er bd) (x : Int) : Ss (w.setCell ⟨b, 1, none⟩ (.int .i64 x)) b s x dp er bd := by
  obtain ⟨c0, c1, c2, c3, c4, f0, f1, f2, f3, f4⟩ := h
  constructor <;> first | (rw [World.cell?_setCell_other _ _ _ _ (by simp)]; assumption) | exact World.cell?_setCell_same _ _ _ c1 | simpa
theorem Ss.set2 (h : Ss w b s a dp er bd) (x : Int) : Ss (w.setCell ⟨b, 2, none⟩ (.int .i64 x)) b s a x er bd := by
  obtain ⟨c0, c1, c2, c3, c4, f0, f1, f2, f3, f4⟩ := h
  constructor <;> first | (rw [World.cell?_setCell_other _ _ _ _ (by simp)]; assumption) | exact World.cell?_setCell_same _ _ _ c2 | simpa
theorem Ss.set3 (h : Ss w b s a dp er bd) (x : Int) : Ss (w.setCell ⟨b, 3, none⟩ (.int .i64 x)) b s a dp x bd := by
  obtain ⟨c0, c1, c2, c3, c4, f0, f1, f2, f3, f4⟩ := h
  constructor <;> first | (rw [World.cell?_setCell_other _ _ _ _ (by simp)]; assumption) | exact World.cell?_setCell_same _ _ _ c3 | simpa
theorem Ss.set4 (h : Ss w b s a dp er bd) (x : Int) : Ss (w.setCell ⟨b, 4, none⟩ (.int .i64 x)) b s a dp er x := by
  obtain ⟨c0, c1, c2, c3, c4, f0, f1, f2, f3, f4⟩ := h
  constructor <;> first | (rw [World.cell?_setCell_other _ _ _ _ (by simp)]; assumption) | exact World.cell?_setCell_same _ _ _ c4 | simpa
end
def putS (w : World) (b : Nat) (s : ByteArray) (a dp er bd : Int) : World := ((((w.setCell ⟨b, 0, none⟩ (.string s)).setCell ⟨b, 1, none⟩ (.int .i64 a)).setCell ⟨b, 2, none⟩ (.int .i64 dp)).setCell ⟨b, 3, none⟩ (.int .i64 er)).setCell ⟨b, 4, none⟩ (.int .i64 bd)
theorem putS_block {w : World} {b k : Nat} (hk : k ≠ b) (s : ByteArray) (a dp er bd : Int) : (putS w b s a dp er bd).heap[k]? = w.heap[k]? := by
  unfold putS
  rw [Below.heap_setCell _ _ _ _ hk, Below.heap_setCell _ _ _ _ hk, Below.heap_setCell _ _ _ _ hk, Below.heap_setCell _ _ _ _ hk, Below.heap_setCell _ _ _ _ hk]
theorem putS_size (w : World) (b : Nat) (s : ByteArray) (a dp er bd : Int) : (putS w b s a dp er bd).heap.size = w.heap.size := by simp [putS]
theorem Ss.put {w : World} {b : Nat} {s : ByteArray} {a dp er bd : Int} (h : Ss w b s a dp er bd) (s' : ByteArray) (a' dp' er' bd' : Int) : Ss (putS w b s' a' dp' er' bd') b s' a' dp' er' bd' :=
  ((((h.set0 s').set1 a').set2 dp').set3 er').set4 bd'
theorem putS_below {B b : Nat} {w w3 : World} (h : Below B w w3) (hb : B ≤ b) (s : ByteArray) (a dp er bd : Int) : Below B w (putS w3 b s a dp er bd) :=
  ((((h.setCell (p := ⟨b, 0, none⟩) hb _).setCell (p := ⟨b, 1, none⟩) hb _).setCell (p := ⟨b, 2, none⟩) hb _).setCell (p := ⟨b, 3, none⟩) hb _).setCell (p := ⟨b, 4, none⟩) hb _
/-- A reader's two places: what it hands back (in block r), and its own (in block b). -/
structure Rs2 (w0 : World) (b r : Nat) (s : ByteArray) (a dp er bd : Int) (w : World) : Prop where
  res : Ss w r ⟨#[]⟩ 0 0 0 0
  own : Ss w b s a dp er bd
  below : Below w0.heap.size w0 w
  hb : w0.heap.size ≤ b
  hr : w0.heap.size ≤ r
  ne : b ≠ r
section
variable {w0 w w1 : World} {b r : Nat} {s : ByteArray} {a dp er bd : Int}
theorem Rs2.keep (h : Rs2 w0 b r s a dp er bd w) (hB : Below w.heap.size w w1) : Rs2 w0 b r s a dp er bd w1 :=
  ⟨h.res.keep hB, h.own.keep hB, h.below.trans (hB.mono h.below.size), h.hb, h.hr, h.ne⟩
theorem Rs2.drew (h : Rs2 w0 b r s a dp er bd w) : Rs2 w0 b r s a dp er bd w.drew := ⟨h.res.drew, h.own.drew, h.below.drew, h.hb, h.hr, h.ne⟩
theorem Rs2.kept (h : Rs2 w0 b r s a dp er bd w) (h1 : w1.heap[b]? = w.heap[b]?) (h2 : w1.heap[r]? = w.heap[r]?) (h3 : Below w0.heap.size w0 w1) : Rs2 w0 b r s a dp er bd w1 := ⟨h.res.kept h2, h.own.kept h1, h3, h.hb, h.hr, h.ne⟩
theorem Rs2.set1 (h : Rs2 w0 b r s a dp er bd w) (x : Int) : Rs2 w0 b r s x dp er bd (w.setCell ⟨b, 1, none⟩ (.int .i64 x)) :=
  ⟨h.res.kept (Below.heap_setCell _ _ _ _ (Ne.symm h.ne)), h.own.set1 x, h.below.setCell (p := ⟨b, 1, none⟩) h.hb _, h.hb, h.hr, h.ne⟩
theorem Rs2.set2 (h : Rs2 w0 b r s a dp er bd w) (x : Int) : Rs2 w0 b r s a x er bd (w.setCell ⟨b, 2, none⟩ (.int .i64 x)) :=
  ⟨h.res.kept (Below.heap_setCell _ _ _ _ (Ne.symm h.ne)), h.own.set2 x, h.below.setCell (p := ⟨b, 2, none⟩) h.hb _, h.hb, h.hr, h.ne⟩
theorem Rs2.set3 (h : Rs2 w0 b r s a dp er bd w) (x : Int) : Rs2 w0 b r s a dp x bd (w.setCell ⟨b, 3, none⟩ (.int .i64 x)) :=
  ⟨h.res.kept (Below.heap_setCell _ _ _ _ (Ne.symm h.ne)), h.own.set3 x, h.below.setCell (p := ⟨b, 3, none⟩) h.hb _, h.hb, h.hr, h.ne⟩
theorem Rs2.set4 (h : Rs2 w0 b r s a dp er bd w) (x : Int) : Rs2 w0 b r s a dp er x (w.setCell ⟨b, 4, none⟩ (.int .i64 x)) :=
  ⟨h.res.kept (Below.heap_setCell _ _ _ _ (Ne.symm h.ne)), h.own.set4 x, h.below.setCell (p := ⟨b, 4, none⟩) h.hb _, h.hb, h.hr, h.ne⟩
theorem Rs2.put (h : Rs2 w0 b r s a dp er bd w) (s' : ByteArray) (a' dp' er' bd' : Int) : Rs2 w0 b r s' a' dp' er' bd' (putS w b s' a' dp' er' bd') :=
  ⟨h.res.kept (putS_block (Ne.symm h.ne) _ _ _ _ _), h.own.put _ _ _ _ _, putS_below h.below h.hb _ _ _ _ _, h.hb, h.hr, h.ne⟩
/-- The result laid into its place. -/
theorem Rs2.last (h : Rs2 w0 b r s a dp er bd w) (s' : ByteArray) (a' dp' er' bd' : Int) : Ss (putS w r s' a' dp' er' bd') r s' a' dp' er' bd' ∧ Below w0.heap.size w0 (putS w r s' a' dp' er' bd') :=
  ⟨h.res.put _ _ _ _ _, putS_below h.below h.hr _ _ _ _ _⟩
end
theorem Rs2.start (w : World) (s : ByteArray) (a dp er bd : Int) (T : TypeId) : Rs2 w w.heap.size (w.heap.size + 1) s a dp er bd ((w.alloc (.cells #[.string s, .int .i64 a, .int .i64 dp, .int .i64 er, .int .i64 bd] T)).alloc (.cells #[.string ⟨#[]⟩, .int .i64 0, .int .i64 0, .int .i64 0, .int .i64 0] T)) := by
  refine ⟨?_, (Ss.new w T s a dp er bd).keep ((Below.refl _ _).alloc (Nat.le_refl _) _), ((Below.refl _ _).alloc (Nat.le_refl _) _).alloc (by simp) _, Nat.le_refl _, Nat.le_succ _, by omega⟩
  have := Ss.new (w.alloc (.cells #[.string s, .int .i64 a, .int .i64 dp, .int .i64 er, .int .i64 bd] T)) T ⟨#[]⟩ 0 0 0 0
  simpa using this
theorem sfail_results (w : World) (b : Nat) (arr : Array Value) (s : ByteArray) (a dp er bd : Int) (h : Ss w b s a dp er bd) (h6 : arr[6]?.getD undef = (.pointer (some ⟨b, 0, none⟩))) :
    (results Tryd.f56 arr).run Tryd.prog w = .ok (rsv s a dp er bd) w := by
  obtain ⟨c0, c1, c2, c3, c4, -⟩ := h
  simp [results, Tryd.results56, go_sem, rsv, c0, c1, c2, c3, c4, h6]
theorem Ss.two (w : World) (s s' : ByteArray) (a dp er bd a' dp' er' bd' : Int) (T : TypeId) : Ss ((w.alloc (.cells #[.string s, .int .i64 a, .int .i64 dp, .int .i64 er, .int .i64 bd] T)).alloc (.cells #[.string s', .int .i64 a', .int .i64 dp', .int .i64 er', .int .i64 bd'] T)) (w.heap.size + 1) s' a' dp' er' bd' ∧ Below w.heap.size w ((w.alloc (.cells #[.string s, .int .i64 a, .int .i64 dp, .int .i64 er, .int .i64 bd] T)).alloc (.cells #[.string s', .int .i64 a', .int .i64 dp', .int .i64 er', .int .i64 bd'] T)) := by
  refine ⟨?_, ((Below.refl _ _).alloc (Nat.le_refl _) _).alloc (by simp) _⟩
  have := Ss.new (w.alloc (.cells #[.string s, .int .i64 a, .int .i64 dp, .int .i64 er, .int .i64 bd] T)) T s' a' dp' er' bd'
  simpa using this
theorem sfail_any (s : ByteArray) (a dp er bd x e : Int) (w : World) :
    Calls Tryd.prog 56 #[rsv s a dp er bd, .int .i64 x, .int .i64 e] w fun r w' => r = .returned (rsv s a dp (if er = 0 then e else er) (if er = 0 then x else bd)) ∧ Below w.heap.size w w' := by
  unfold rsv
  by_cases h : er = 0
  · subst h
    rw [if_pos rfl, if_pos rfl]
    have HE := Lib.hid (Ss.two w s s a dp e x a dp e x 58)
    go_enter Tryd.func56, Tryd.ntmps56
    go_wp2_with fail
    refine bodyPost_ret (v := rsv s a dp e x) ?_ rfl ⟨rfl, HE.out.2⟩
    exact sfail_results _ _ _ _ _ _ _ _ HE.out.1 rfl
  · rw [if_neg h, if_neg h]
    have hb0 : (er == 0) = false := by simpa using h
    have HE := Lib.hid (Ss.two w s s a dp er bd a dp er bd 58)
    go_enter Tryd.func56, Tryd.ntmps56
    go_wp2_with fail
    refine bodyPost_ret (v := rsv s a dp er bd) ?_ rfl ⟨rfl, HE.out.2⟩
    exact sfail_results _ _ _ _ _ _ _ _ HE.out.1 rfl
/-- The sign here, where nothing is wrong. -/
def sgZ (s : ByteArray) (q : Nat) : Int := if h : q < s.size then (s[q].toNat : Int) else -1
theorem rsign_err (s : ByteArray) (a dp er bd : Int) (h : er ≠ 0) (w : World) :
    Calls Tryd.prog 35 #[rsv s a dp er bd] w fun r w' => r = .returned (.int .i64 (-1)) ∧ Below w.heap.size w w' := by
  unfold rsv
  have hb0 : (er == 0) = false := by simpa using h
  have hb1 : (er != 0) = true := by simpa using h
  go_enter Tryd.func35, Tryd.ntmps35
  go_wp2_with fail
  go_ret
  exact ⟨rfl, (Below.refl _ _).alloc (Nat.le_refl _) _⟩
theorem rsign_ok (s : ByteArray) (q : Nat) (dp bd : Int) (_hs : s.size ≤ 1000) (w : World) :
    Calls Tryd.prog 35 #[rsv s (q : Int) dp 0 bd] w fun r w' => r = .returned (.int .i64 (sgZ s q)) ∧ Below w.heap.size w w' := by
  unfold rsv sgZ
  by_cases h : q < s.size
  · rw [dif_pos h]
    have hi : ¬ (s.size : Int) ≤ (q : Int) := by omega
    have hcb := s[q].toNat_lt
    go_enter Tryd.func35, Tryd.ntmps35
    go_wp2_with fail
    go_ret
    exact ⟨rfl, (Below.refl _ _).alloc (Nat.le_refl _) _⟩
  · rw [dif_neg h]
    have hi : (s.size : Int) ≤ (q : Int) := by omega
    go_enter Tryd.func35, Tryd.ntmps35
    go_wp2_with fail
    go_ret
    exact ⟨rfl, (Below.refl _ _).alloc (Nat.le_refl _) _⟩
/-- What stands behind a backslash is meant as this; or it is wrong there. -/
def escO (s : ByteArray) (q : Nat) : Option UInt8 := if h : q < s.size then escB s[q] else none
def EsPost (s : ByteArray) (q : Nat) (dp bd : Int) (w : World) (e : Ending) (w' : World) : Prop :=
  e = .returned (.tuple #[match escO s q with | some _ => rsv s ((q : Int) + 1) dp 0 bd | none => rsv s ((q : Int) + 1) dp 9 ((q : Int) - 1), .int .u8 (match escO s q with | some x => (x.toNat : Int) | none => 0)]) ∧ Below w.heap.size w w'
theorem esc_results (w : World) (b : Nat) (arr : Array Value) (s : ByteArray) (a dp er bd x : Int) (h : Ss w b s a dp er bd) (h2 : arr[2]?.getD undef = (.pointer (some ⟨b, 0, none⟩))) (h3 : arr[3]?.getD undef = .int .u8 x) :
    (results Tryd.f69 arr).run Tryd.prog w = .ok (.tuple #[rsv s a dp er bd, .int .u8 x]) w := by
  obtain ⟨c0, c1, c2, c3, c4, -⟩ := h
  simp [results, Tryd.results69, go_sem, rsv, c0, c1, c2, c3, c4, h2, h3]
theorem esc_cases (s : ByteArray) (q : Nat) : ∃ ci : Int, sgZ s q = ci ∧ -1 ≤ ci ∧ ci ≤ 255 ∧
    ((ci = 110 ∧ escO s q = some 10) ∨ (ci = 116 ∧ escO s q = some 9) ∨ (ci < 32 ∧ escO s q = none) ∨ (¬ ci < 32 ∧ 126 < ci ∧ escO s q = none) ∨ (¬ ci < 32 ∧ ¬ 126 < ci ∧ 48 ≤ ci ∧ ci ≤ 57 ∧ escO s q = none) ∨
     (¬ ci < 32 ∧ ¬ 126 < ci ∧ 97 ≤ ci ∧ ci ≤ 122 ∧ ci ≠ 110 ∧ ci ≠ 116 ∧ escO s q = none) ∨ (¬ ci < 32 ∧ ¬ 126 < ci ∧ 65 ≤ ci ∧ ci ≤ 90 ∧ escO s q = none) ∨
     (¬ ci < 32 ∧ ¬ 126 < ci ∧ ¬ (48 ≤ ci ∧ ci ≤ 57) ∧ ¬ (97 ≤ ci ∧ ci ≤ 122) ∧ ¬ (65 ≤ ci ∧ ci ≤ 90) ∧ ∃ x, escO s q = some x ∧ (x.toNat : Int) = ci)) := by
  refine ⟨_, rfl, ?_⟩
  unfold sgZ escO
  by_cases h : q < s.size
  · simp only [dif_pos h]
    have hl := s[q].toNat_lt
    generalize s[q] = c at *
    refine ⟨by omega, by omega, ?_⟩
    have u : ∀ n : Nat, n < 256 → (c = UInt8.ofNat n ↔ c.toNat = n) := fun n hn => by
      constructor
      · rintro rfl; rw [UInt8.toNat_ofNat']; omega
      · intro h; apply UInt8.toNat_inj.1; rw [UInt8.toNat_ofNat']; omega
    have u110 : c = 110 ↔ c.toNat = 110 := u 110 (by decide)
    have u116 : c = 116 ↔ c.toNat = 116 := u 116 (by decide)
    unfold escB letB digB
    simp only [UInt8.lt_iff_toNat_lt, UInt8.le_iff_toNat_le, Bool.or_eq_true, Bool.and_eq_true, decide_eq_true_eq, u110, u116, show (32 : UInt8).toNat = 32 from rfl, show (126 : UInt8).toNat = 126 from rfl, show (97 : UInt8).toNat = 97 from rfl, show (122 : UInt8).toNat = 122 from rfl, show (65 : UInt8).toNat = 65 from rfl, show (90 : UInt8).toNat = 90 from rfl, show (48 : UInt8).toNat = 48 from rfl, show (57 : UInt8).toNat = 57 from rfl]
    by_cases h1 : c.toNat = 110
    · exact .inl ⟨by omega, by rw [if_neg (by omega), if_pos h1]⟩
    · by_cases h2 : c.toNat = 116
      · exact .inr (.inl ⟨by omega, by rw [if_neg (by omega), if_neg h1, if_pos h2]⟩)
      · by_cases h3 : c.toNat < 32
        · exact .inr (.inr (.inl ⟨by omega, by rw [if_pos (.inl h3)]⟩))
        · by_cases h4 : 126 < c.toNat
          · exact .inr (.inr (.inr (.inl ⟨by omega, by omega, by rw [if_pos (.inr h4)]⟩)))
          · have e0 : ¬ (c.toNat < 32 ∨ 126 < c.toNat) := by omega
            by_cases h5 : 48 ≤ c.toNat ∧ c.toNat ≤ 57
            · exact .inr (.inr (.inr (.inr (.inl ⟨by omega, by omega, by omega, by omega, by rw [if_neg e0, if_neg h1, if_neg h2, if_pos (.inr h5)]⟩))))
            · by_cases h6 : 97 ≤ c.toNat ∧ c.toNat ≤ 122
              · exact .inr (.inr (.inr (.inr (.inr (.inl ⟨by omega, by omega, by omega, by omega, by omega, by omega, by rw [if_neg e0, if_neg h1, if_neg h2, if_pos (.inl (.inl h6))]⟩)))))
              · by_cases h7 : 65 ≤ c.toNat ∧ c.toNat ≤ 90
                · exact .inr (.inr (.inr (.inr (.inr (.inr (.inl ⟨by omega, by omega, by omega, by omega, by rw [if_neg e0, if_neg h1, if_neg h2, if_pos (.inl (.inr h7))]⟩))))))
                · exact .inr (.inr (.inr (.inr (.inr (.inr (.inr ⟨by omega, by omega, by omega, by omega, by omega, c, by rw [if_neg e0, if_neg h1, if_neg h2, if_neg (by omega)], rfl⟩))))))
  · simp only [dif_neg h]
    exact ⟨by omega, by omega, .inr (.inr (.inl ⟨by omega, by trivial⟩))⟩
set_option maxHeartbeats 2000000 in
theorem sesc_any (s : ByteArray) (q : Nat) (dp bd : Int) (hs : s.size ≤ 1000) (hq : q ≤ s.size) (w : World) :
    Calls Tryd.prog 69 #[rsv s (q : Int) dp 0 bd] w (EsPost s q dp bd w) := by
  obtain ⟨ci, hci, hc1, hc2, HC⟩ := esc_cases s q
  have CS := Lib.hid fun W => rsign_ok s q dp bd hs W
  rw [hci] at CS
  clear hci
  have H0 := Lib.hid (Rs2.start w s (q : Int) dp 0 bd 58)
  have CF := Lib.hid fun W => sfail_any s ((q : Int) + 1) dp 0 bd ((q : Int) - 1) 9 W
  rw [if_pos rfl, if_pos rfl] at CF
  unfold EsPost
  generalize escO s q = o at *
  unfold rsv at CS CF ⊢
  go_enter Tryd.func69, Tryd.ntmps69
  go_wp2_with fail
  generalize hW : (w.alloc (.cells #[.string s, .int .i64 (q : Int), .int .i64 dp, .int .i64 0, .int .i64 bd] 58)).alloc (.cells #[.string ⟨#[]⟩, .int .i64 0, .int .i64 0, .int .i64 0, .int .i64 0] 58) = w1 at *
  refine (CS.out _).mono ?_
  rintro e w2 ⟨rfl, hb2⟩
  have H2 := Lib.hid (H0.out.keep hb2)
  clear hb2 H0 hW CS
  obtain ⟨c0, c1, c2, c3, c4, f0, f1, f2, f3, f4⟩ := H2.out.own
  obtain ⟨r0, r1, r2, r3, r4, g0, g1, g2, g3, g4⟩ := H2.out.res
  have HOK := Lib.hid ((H2.out.set1 ((q : Int) + 1)).last s ((q : Int) + 1) dp 0 bd)
  have HN : Hid (∀ W, Below (w2.setCell ⟨w.heap.size, 1, none⟩ (.int .i64 ((q : Int) + 1))).heap.size (w2.setCell ⟨w.heap.size, 1, none⟩ (.int .i64 ((q : Int) + 1))) W → Rs2 w w.heap.size (w.heap.size + 1) s ((q : Int) + 1) dp 0 bd W) := Lib.hid fun W hB => (H2.out.set1 ((q : Int) + 1)).keep hB
  have hq1 : (q : Int) ≤ 1000 := by omega
  rcases HC with ⟨h1, h⟩ | ⟨h1, h⟩ | ⟨h1, h⟩ | ⟨h1, h2, h⟩ | ⟨h1, h2, h3, h4, h⟩ | ⟨h1, h2, h3, h4, h5, h6, h⟩ | ⟨h1, h2, h3, h4, h⟩ | ⟨h1, h2, h3, h4, h5, x, h, hx⟩
  · subst h h1
    go_wp2_with fail
    refine bodyPost_ret (v := .tuple #[rsv s ((q : Int) + 1) dp 0 bd, .int .u8 10]) ?_ rfl ⟨rfl, HOK.out.2⟩
    exact esc_results _ _ _ _ _ _ _ _ _ HOK.out.1 rfl rfl
  · subst h h1
    go_wp2_with fail
    refine bodyPost_ret (v := .tuple #[rsv s ((q : Int) + 1) dp 0 bd, .int .u8 9]) ?_ rfl ⟨rfl, HOK.out.2⟩
    exact esc_results _ _ _ _ _ _ _ _ _ HOK.out.1 rfl rfl
  · subst h
    clear HOK
    have n1 : (ci == 110) = false := by rw [beq_eq_false_iff_ne]; omega
    have n2 : (ci == 116) = false := by rw [beq_eq_false_iff_ne]; omega
    go_wp2_with fail
    refine (CF.out _).mono ?_
    rintro e w4 ⟨rfl, hb4⟩
    have H4 := Lib.hid ((HN.out _ hb4).last s ((q : Int) + 1) dp 9 ((q : Int) - 1))
    have H5 := (HN.out _ hb4).res
    obtain ⟨r0', r1', r2', r3', r4', g0', g1', g2', g3', g4'⟩ := H5
    clear hb4 HN
    go_wp2_with fail
    refine bodyPost_ret (v := .tuple #[rsv s ((q : Int) + 1) dp 9 ((q : Int) - 1), .int .u8 0]) ?_ rfl ⟨rfl, H4.out.2⟩
    exact esc_results _ _ _ _ _ _ _ _ _ H4.out.1 rfl rfl
  · subst h
    clear HOK
    have n1 : (ci == 110) = false := by rw [beq_eq_false_iff_ne]; omega
    have n2 : (ci == 116) = false := by rw [beq_eq_false_iff_ne]; omega
    go_wp2_with fail
    refine (CF.out _).mono ?_
    rintro e w4 ⟨rfl, hb4⟩
    have H4 := Lib.hid ((HN.out _ hb4).last s ((q : Int) + 1) dp 9 ((q : Int) - 1))
    have H5 := (HN.out _ hb4).res
    obtain ⟨r0', r1', r2', r3', r4', g0', g1', g2', g3', g4'⟩ := H5
    clear hb4 HN
    go_wp2_with fail
    refine bodyPost_ret (v := .tuple #[rsv s ((q : Int) + 1) dp 9 ((q : Int) - 1), .int .u8 0]) ?_ rfl ⟨rfl, H4.out.2⟩
    exact esc_results _ _ _ _ _ _ _ _ _ H4.out.1 rfl rfl
  · subst h
    clear HOK
    have n1 : (ci == 110) = false := by rw [beq_eq_false_iff_ne]; omega
    have n2 : (ci == 116) = false := by rw [beq_eq_false_iff_ne]; omega
    go_wp2_with fail
    refine (CF.out _).mono ?_
    rintro e w4 ⟨rfl, hb4⟩
    have H4 := Lib.hid ((HN.out _ hb4).last s ((q : Int) + 1) dp 9 ((q : Int) - 1))
    have H5 := (HN.out _ hb4).res
    obtain ⟨r0', r1', r2', r3', r4', g0', g1', g2', g3', g4'⟩ := H5
    clear hb4 HN
    go_wp2_with fail
    refine bodyPost_ret (v := .tuple #[rsv s ((q : Int) + 1) dp 9 ((q : Int) - 1), .int .u8 0]) ?_ rfl ⟨rfl, H4.out.2⟩
    exact esc_results _ _ _ _ _ _ _ _ _ H4.out.1 rfl rfl
  · subst h
    clear HOK
    have n1 : (ci == 110) = false := by rw [beq_eq_false_iff_ne]; omega
    have n2 : (ci == 116) = false := by rw [beq_eq_false_iff_ne]; omega
    have n3 : 48 ≤ ci := by omega
    have n4 : ¬ ci ≤ 57 := by omega
    go_wp2_with fail
    refine (CF.out _).mono ?_
    rintro e w4 ⟨rfl, hb4⟩
    have H4 := Lib.hid ((HN.out _ hb4).last s ((q : Int) + 1) dp 9 ((q : Int) - 1))
    have H5 := (HN.out _ hb4).res
    obtain ⟨r0', r1', r2', r3', r4', g0', g1', g2', g3', g4'⟩ := H5
    clear hb4 HN
    go_wp2_with fail
    refine bodyPost_ret (v := .tuple #[rsv s ((q : Int) + 1) dp 9 ((q : Int) - 1), .int .u8 0]) ?_ rfl ⟨rfl, H4.out.2⟩
    exact esc_results _ _ _ _ _ _ _ _ _ H4.out.1 rfl rfl
  · subst h
    clear HOK
    have n1 : (ci == 110) = false := by rw [beq_eq_false_iff_ne]; omega
    have n2 : (ci == 116) = false := by rw [beq_eq_false_iff_ne]; omega
    have n5 : 48 ≤ ci := by omega
    have n6 : ¬ ci ≤ 57 := by omega
    have n7 : ¬ 97 ≤ ci := by omega
    go_wp2_with fail
    refine (CF.out _).mono ?_
    rintro e w4 ⟨rfl, hb4⟩
    have H4 := Lib.hid ((HN.out _ hb4).last s ((q : Int) + 1) dp 9 ((q : Int) - 1))
    have H5 := (HN.out _ hb4).res
    obtain ⟨r0', r1', r2', r3', r4', g0', g1', g2', g3', g4'⟩ := H5
    clear hb4 HN
    go_wp2_with fail
    refine bodyPost_ret (v := .tuple #[rsv s ((q : Int) + 1) dp 9 ((q : Int) - 1), .int .u8 0]) ?_ rfl ⟨rfl, H4.out.2⟩
    exact esc_results _ _ _ _ _ _ _ _ _ H4.out.1 rfl rfl
  · subst h
    have n1 : (ci == 110) = false := by rw [beq_eq_false_iff_ne]; omega
    have n2 : (ci == 116) = false := by rw [beq_eq_false_iff_ne]; omega
    have hci0 : 0 ≤ ci := by omega
    rcases (show (¬ 48 ≤ ci ∧ ¬ 97 ≤ ci ∧ ¬ 65 ≤ ci) ∨ (48 ≤ ci ∧ ¬ ci ≤ 57 ∧ ¬ 97 ≤ ci ∧ ¬ 65 ≤ ci) ∨ (48 ≤ ci ∧ ¬ ci ≤ 57 ∧ ¬ 97 ≤ ci ∧ 65 ≤ ci ∧ ¬ ci ≤ 90) ∨ (48 ≤ ci ∧ ¬ ci ≤ 57 ∧ 97 ≤ ci ∧ ¬ ci ≤ 122 ∧ 65 ≤ ci ∧ ¬ ci ≤ 90) by omega) with ⟨m1, m2, m3⟩ | ⟨m1, m2, m3, m4⟩ | ⟨m1, m2, m3, m4, m5⟩ | ⟨m1, m2, m3, m4, m5, m6⟩
    all_goals
      clear h3 h4 h5
      go_wp2_with fail
      refine bodyPost_ret (v := .tuple #[rsv s ((q : Int) + 1) dp 0 bd, .int .u8 ci]) ?_ rfl ⟨rfl, HOK.out.2⟩
      exact esc_results _ _ _ _ _ _ _ _ _ HOK.out.1 rfl rfl
end Go.Proofs.YtjjejcgpeefclaaDoor
