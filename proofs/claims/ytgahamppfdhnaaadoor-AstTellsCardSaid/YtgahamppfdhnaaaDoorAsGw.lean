/-
  CONTRACT of the laws' own Grow of layer 12: a tree, and the document's own copy of it.
-/
import Derived.Test.YtgahamppfdhnaaaDoorAsTold
namespace Go.Proofs.YtgahamppfdhnaaaDoor
open Go.RowKit

def treeOf (l : List Pa) : T := if l.length = 0 then .mk ⟨#[]⟩ ⟨#[]⟩ 0 [] else growT (l.take 30) 0
theorem treeOf_size (l : List Pa) : (treeOf l).size ≤ 30 := by
  unfold treeOf
  split
  · simp [T.size, sizeL]
  · rename_i h
    have := grow_size (l := l.take 30) (by rw [List.length_take]; omega)
    rw [List.length_take] at this
    omega
/-- A tree as a value, in blocks from b on. -/
def VT (w : World) (b : Nat) (n : Nd) (t : T) : Prop := ∃ ks, TV w (fun g => b ≤ g) n ks ∧ n.t ks = t
theorem VT.next {w w' : World} {b : Nat} {n : Nd} {t : T} (h : VT w b n t) (hb : Below w.heap.size w w') : VT w' b n t := by
  obtain ⟨ks, h1, h2⟩ := h
  exact ⟨ks, h1.next hb, h2⟩
theorem VT.less {w : World} {b c : Nat} {n : Nd} {t : T} (h : VT w b n t) (hc : c ≤ b) : VT w c n t := by
  obtain ⟨ks, h1, h2⟩ := h
  exact ⟨ks, h1.kept (fun _ _ _ => rfl) (fun g hg _ => Nat.le_trans hc hg), h2⟩
theorem VT.keep {w w' : World} {b : Nat} {n : Nd} {t : T} (h : VT w b n t) (hk : ∀ g, b ≤ g → g < w.heap.size → w'.heap[g]? = w.heap[g]?) : VT w' b n t := by
  obtain ⟨ks, h1, h2⟩ := h
  exact ⟨ks, h1.kept hk (fun _ h _ => h), h2⟩
def GwPost (t : T) (w : World) (e : Ending) (w' : World) : Prop := ∃ n m, e = .returned (.tuple #[n.val, m.val]) ∧ VT w' w.heap.size n t ∧ VT w' w.heap.size m t ∧ Below w.heap.size w w'
def GgPost (t : T) (w : World) (e : Ending) (w' : World) : Prop := ∃ nd, e = .returned nd.val ∧ VT w' w.heap.size nd t ∧ Below w.heap.size w w'
theorem grow_nil (q : Option Addr) (cap : Nat) (w : World) : Calls Tryd.prog 22 #[.slice q 0 cap, .int .i64 0] w (GgPost (.mk ⟨#[]⟩ ⟨#[]⟩ 0 []) w) := by
  have b1 : Below w.heap.size w (w.alloc (.cells #[.string ⟨#[]⟩, .string ⟨#[]⟩, .int .i64 0, .slice none 0 0] 25)) := (Below.refl _ _).alloc (Nat.le_refl _) _
  have HB := Lib.hid (put4_below b1 (Nat.le_refl _) ⟨⟨#[]⟩, ⟨#[]⟩, 0, none, 0, 0⟩)
  clear b1
  go_enter Tryd.func22, Tryd.ntmps22
  go_wp2_with fail
  refine bodyPost_ret (v := .agg #[.string ⟨#[]⟩, .string ⟨#[]⟩, .int .i64 0, .slice none 0 0]) ?_ rfl ⟨⟨⟨#[]⟩, ⟨#[]⟩, 0, none, 0, 0⟩, rfl, ⟨[], ⟨rfl, .inl rfl, MemL.nil _ _⟩, by simp [Nd.t, erL]⟩, ?_⟩
  · simp [results, Tryd.results22, go_sem]
  · have := HB.out
    simpa [put4, go_sem] using this
theorem grow_of (q : Option Addr) (cap : Nat) (l : List Pa) (w : World) (hA : PaAt w q l) (hok : ∀ a ∈ l, a.ok) (hl : l.length ≤ 1000) :
    Calls Tryd.prog 22 #[.slice q l.length cap, .int .i64 0] w (GgPost (if l.length = 0 then .mk ⟨#[]⟩ ⟨#[]⟩ 0 [] else growT l 0) w) := by
  by_cases h0 : l.length = 0
  · rw [if_pos h0, h0]; exact grow_nil q cap w
  · rw [if_neg h0]
    exact (grow_any q cap l hok hl l.length 0 (by omega) (by omega) w hA).mono fun e w' ⟨nd, ks, h1, h2, h3, h4⟩ => ⟨nd, h1, ⟨ks, h2, h3⟩, h4⟩
theorem told_of (n : Nd) (t : T) (b : Nat) (w : World) (h : VT w b n t) (hz : t.size ≤ 1000) : Calls Tryd.prog 20 #[n.val] w (GgPost t w) := by
  obtain ⟨ks, h1, rfl⟩ := h
  obtain ⟨op, tx, pl, kp, kn, kc⟩ := n
  have e : kn = ks.length := h1.len
  subst e
  have := told_any (.mk op tx pl kp kc 0 0 ks) w _ h1 (by rw [er]; exact hz)
  exact this.mono fun e w' ⟨nd, ks, h1, h2, h3, h4⟩ => ⟨nd, h1, ⟨ks, h2, by rw [h3, er, Nd.t]⟩, h4⟩
set_option maxHeartbeats 4000000 in
set_option maxRecDepth 100000 in
theorem gw_any (q : Option Addr) (cap : Nat) (l : List Pa) (w : World) (hA : PaAt w q l) (hok : ∀ a ∈ l, a.ok) (hl : l.length ≤ maxLen) (hcap : l.length ≤ cap) :
    Calls Tryd.prog 8 #[.slice q l.length cap] w (GwPost (treeOf l) w) := by
  have htz := treeOf_size l
  have HC : Hid (∀ W, Below w.heap.size w W → Calls Tryd.prog 22 #[.slice q (min l.length 30) cap, .int .i64 0] W (GgPost (treeOf l) W)) := Lib.hid fun W hW => by
    have h1 : (l.take 30).length = min l.length 30 := by rw [List.length_take]; omega
    have h2 := grow_of q cap (l.take 30) W ((hA.next hW).take 30) (fun a ha => hok a (List.mem_of_mem_take ha)) (by omega)
    rw [h1] at h2
    have h3 : (if min l.length 30 = 0 then T.mk ⟨#[]⟩ ⟨#[]⟩ 0 [] else growT (l.take 30) 0) = treeOf l := by
      unfold treeOf
      by_cases h : l.length = 0
      · rw [if_pos h, if_pos (by omega)]
      · rw [if_neg h, if_neg (by omega)]
    rw [h3] at h2
    exact h2
  generalize treeOf l = t at *
  have hl' := hl
  unfold maxLen at hl'
  obtain ⟨m, hm⟩ : ∃ m, min l.length 30 = m := ⟨_, rfl⟩
  have b2 : Below w.heap.size w ((w.alloc (.cells #[.string ⟨#[]⟩, .string ⟨#[]⟩, .int .i64 0, .slice none 0 0] 25)).alloc (.cells #[.string ⟨#[]⟩, .string ⟨#[]⟩, .int .i64 0, .slice none 0 0] 28)) := ((Below.refl _ _).alloc (Nat.le_refl _) _).alloc (by simp) _
  have HB2 := Lib.hid b2
  rw [hm] at HC
  clear hA hok b2
  by_cases h30 : 30 < l.length
  · have h3i : (30 : Int) < (l.length : Int) := by omega
    obtain rfl : m = 30 := by omega
    have hci : (30 : Int) ≤ (cap : Int) := by omega
    go_enter Tryd.func8, Tryd.ntmps8
    go_wp2_with fail
    refine (HC.out _ HB2.out).mono ?_
    rintro e w3 ⟨⟨n1, n2, n3, n4, n5, n6⟩, rfl, hv3, hb3⟩
    have HB3 := Lib.hid (HB2.out.trans (hb3.mono (by simp; omega)))
    have HV3 := Lib.hid (hv3.less (by simp : w.heap.size + 2 ≤ _))
    have HR1 : Hid (w3.heap[w.heap.size]? = some (.cells #[.string ⟨#[]⟩, .string ⟨#[]⟩, .int .i64 0, .slice none 0 0] 25 (0, 0))) := Lib.hid ((hb3.block _ (by simp; omega)).trans ((Below.heap_alloc _ _ _ (by simp)).trans (as_heap_alloc w _)))
    have HR2 : Hid (w3.heap[w.heap.size + 1]? = some (.cells #[.string ⟨#[]⟩, .string ⟨#[]⟩, .int .i64 0, .slice none 0 0] 28 (0, 0))) := Lib.hid ((hb3.block _ (by simp)).trans (by
      have := as_heap_alloc (w.alloc (.cells #[.string ⟨#[]⟩, .string ⟨#[]⟩, .int .i64 0, .slice none 0 0] 25)) (.cells #[.string ⟨#[]⟩, .string ⟨#[]⟩, .int .i64 0, .slice none 0 0] 28)
      rw [World.size_alloc] at this
      exact this))
    have hz3 : w.heap.size + 2 ≤ w3.heap.size := by have := hb3.size; simp at this; omega
    clear hv3 hb3 HB2
    simp only [Nd.val]
    go_wp2_with fail
    refine (HC.out _ HB3.out).mono ?_
    rintro e w4 ⟨⟨m1, m2, m3, m4, m5, m6⟩, rfl, hv4, hb4⟩
    have CT := Lib.hid (told_of ⟨m1, m2, m3, m4, m5, m6⟩ t _ w4 hv4 (by omega))
    have HB4 := Lib.hid (HB3.out.trans (hb4.mono HB3.out.size))
    have HV4 := Lib.hid (HV3.out.next hb4)
    have HR14 := Lib.hid ((hb4.block _ (as_lt HR1.out)).trans HR1.out)
    have HR24 := Lib.hid ((hb4.block _ (as_lt HR2.out)).trans HR2.out)
    have hz4 := hb4.size
    clear hv4 hb4 HV3 HR1 HR2 HB3 HC
    simp only [Nd.val] at CT ⊢
    go_wp2_with fail
    refine CT.out.mono ?_
    rintro e w5 ⟨⟨r1, r2, r3, r4, r5, r6⟩, rfl, hv5, hb5⟩
    have HB5 := Lib.hid (HB4.out.trans (hb5.mono HB4.out.size))
    have HV5 := Lib.hid (HV4.out.next hb5)
    have HU5 := Lib.hid (hv5.less (by omega : w.heap.size + 2 ≤ _))
    have h15 := (hb5.block _ (as_lt HR14.out)).trans HR14.out
    have h25 := (hb5.block _ (as_lt HR24.out)).trans HR24.out
    have e0 : w5.cell? ⟨w.heap.size, 0, none⟩ = some (.string ⟨#[]⟩) := as_cell h15
    have e1 : w5.cell? ⟨w.heap.size, 1, none⟩ = some (.string ⟨#[]⟩) := as_cell h15
    have e2 : w5.cell? ⟨w.heap.size, 2, none⟩ = some (.int .i64 0) := as_cell h15
    have e3 : w5.cell? ⟨w.heap.size, 3, none⟩ = some (.slice none 0 0) := as_cell h15
    have g0 : w5.cell? ⟨w.heap.size + 1, 0, none⟩ = some (.string ⟨#[]⟩) := as_cell h25
    have g1 : w5.cell? ⟨w.heap.size + 1, 1, none⟩ = some (.string ⟨#[]⟩) := as_cell h25
    have g2 : w5.cell? ⟨w.heap.size + 1, 2, none⟩ = some (.int .i64 0) := as_cell h25
    have g3 : w5.cell? ⟨w.heap.size + 1, 3, none⟩ = some (.slice none 0 0) := as_cell h25
    have f0 : w5.frozen? ⟨w.heap.size, 0, none⟩ = false := as_frozen h15
    have f1 : w5.frozen? ⟨w.heap.size, 1, none⟩ = false := as_frozen h15
    have f2 : w5.frozen? ⟨w.heap.size, 2, none⟩ = false := as_frozen h15
    have f3 : w5.frozen? ⟨w.heap.size, 3, none⟩ = false := as_frozen h15
    have k0 : w5.frozen? ⟨w.heap.size + 1, 0, none⟩ = false := as_frozen h25
    have k1 : w5.frozen? ⟨w.heap.size + 1, 1, none⟩ = false := as_frozen h25
    have k2 : w5.frozen? ⟨w.heap.size + 1, 2, none⟩ = false := as_frozen h25
    have k3 : w5.frozen? ⟨w.heap.size + 1, 3, none⟩ = false := as_frozen h25
    have hset : ∀ g, w.heap.size + 2 ≤ g → g < w5.heap.size → (put4 (put4 w5 w.heap.size ⟨n1, n2, n3, n4, n5, n6⟩) (w.heap.size + 1) ⟨r1, r2, r3, r4, r5, r6⟩).heap[g]? = w5.heap[g]? := fun g hg _ => by
      rw [put4_block (by omega), put4_block (by omega)]
    have HE : Hid (GwPost t w (.returned (.tuple #[.agg #[.string n1, .string n2, .int .i64 n3, .slice n4 n5 n6], .agg #[.string r1, .string r2, .int .i64 r3, .slice r4 r5 r6]])) (put4 (put4 w5 w.heap.size ⟨n1, n2, n3, n4, n5, n6⟩) (w.heap.size + 1) ⟨r1, r2, r3, r4, r5, r6⟩)) := Lib.hid
      ⟨⟨n1, n2, n3, n4, n5, n6⟩, ⟨r1, r2, r3, r4, r5, r6⟩, rfl, (HV5.out.keep hset).less (by omega), (HU5.out.keep hset).less (by omega), put4_below (put4_below HB5.out (Nat.le_refl _) _) (by omega) _⟩
    clear hv5 hb5 HV5 HU5 HB5 HR14 HR24 HV4 HB4 hset h15 h25 CT
    simp only [Nd.val]
    go_wp2_with fail
    refine bodyPost_ret (v := .tuple #[.agg #[.string n1, .string n2, .int .i64 n3, .slice n4 n5 n6], .agg #[.string r1, .string r2, .int .i64 r3, .slice r4 r5 r6]]) ?_ rfl HE.out
    simp [results, Tryd.results8, go_sem, e0, e1, e2, e3, g0, g1, g2, g3]
  · have h3i : ¬ (30 : Int) < (l.length : Int) := by omega
    obtain rfl : m = l.length := by omega
    go_enter Tryd.func8, Tryd.ntmps8
    go_wp2_with fail
    refine (HC.out _ HB2.out).mono ?_
    rintro e w3 ⟨⟨n1, n2, n3, n4, n5, n6⟩, rfl, hv3, hb3⟩
    have HB3 := Lib.hid (HB2.out.trans (hb3.mono (by simp; omega)))
    have HV3 := Lib.hid (hv3.less (by simp : w.heap.size + 2 ≤ _))
    have HR1 : Hid (w3.heap[w.heap.size]? = some (.cells #[.string ⟨#[]⟩, .string ⟨#[]⟩, .int .i64 0, .slice none 0 0] 25 (0, 0))) := Lib.hid ((hb3.block _ (by simp; omega)).trans ((Below.heap_alloc _ _ _ (by simp)).trans (as_heap_alloc w _)))
    have HR2 : Hid (w3.heap[w.heap.size + 1]? = some (.cells #[.string ⟨#[]⟩, .string ⟨#[]⟩, .int .i64 0, .slice none 0 0] 28 (0, 0))) := Lib.hid ((hb3.block _ (by simp)).trans (by
      have := as_heap_alloc (w.alloc (.cells #[.string ⟨#[]⟩, .string ⟨#[]⟩, .int .i64 0, .slice none 0 0] 25)) (.cells #[.string ⟨#[]⟩, .string ⟨#[]⟩, .int .i64 0, .slice none 0 0] 28)
      rw [World.size_alloc] at this
      exact this))
    have hz3 : w.heap.size + 2 ≤ w3.heap.size := by have := hb3.size; simp at this; omega
    clear hv3 hb3 HB2
    simp only [Nd.val]
    go_wp2_with fail
    refine (HC.out _ HB3.out).mono ?_
    rintro e w4 ⟨⟨m1, m2, m3, m4, m5, m6⟩, rfl, hv4, hb4⟩
    have CT := Lib.hid (told_of ⟨m1, m2, m3, m4, m5, m6⟩ t _ w4 hv4 (by omega))
    have HB4 := Lib.hid (HB3.out.trans (hb4.mono HB3.out.size))
    have HV4 := Lib.hid (HV3.out.next hb4)
    have HR14 := Lib.hid ((hb4.block _ (as_lt HR1.out)).trans HR1.out)
    have HR24 := Lib.hid ((hb4.block _ (as_lt HR2.out)).trans HR2.out)
    have hz4 := hb4.size
    clear hv4 hb4 HV3 HR1 HR2 HB3 HC
    simp only [Nd.val] at CT ⊢
    go_wp2_with fail
    refine CT.out.mono ?_
    rintro e w5 ⟨⟨r1, r2, r3, r4, r5, r6⟩, rfl, hv5, hb5⟩
    have HB5 := Lib.hid (HB4.out.trans (hb5.mono HB4.out.size))
    have HV5 := Lib.hid (HV4.out.next hb5)
    have HU5 := Lib.hid (hv5.less (by omega : w.heap.size + 2 ≤ _))
    have h15 := (hb5.block _ (as_lt HR14.out)).trans HR14.out
    have h25 := (hb5.block _ (as_lt HR24.out)).trans HR24.out
    have e0 : w5.cell? ⟨w.heap.size, 0, none⟩ = some (.string ⟨#[]⟩) := as_cell h15
    have e1 : w5.cell? ⟨w.heap.size, 1, none⟩ = some (.string ⟨#[]⟩) := as_cell h15
    have e2 : w5.cell? ⟨w.heap.size, 2, none⟩ = some (.int .i64 0) := as_cell h15
    have e3 : w5.cell? ⟨w.heap.size, 3, none⟩ = some (.slice none 0 0) := as_cell h15
    have g0 : w5.cell? ⟨w.heap.size + 1, 0, none⟩ = some (.string ⟨#[]⟩) := as_cell h25
    have g1 : w5.cell? ⟨w.heap.size + 1, 1, none⟩ = some (.string ⟨#[]⟩) := as_cell h25
    have g2 : w5.cell? ⟨w.heap.size + 1, 2, none⟩ = some (.int .i64 0) := as_cell h25
    have g3 : w5.cell? ⟨w.heap.size + 1, 3, none⟩ = some (.slice none 0 0) := as_cell h25
    have f0 : w5.frozen? ⟨w.heap.size, 0, none⟩ = false := as_frozen h15
    have f1 : w5.frozen? ⟨w.heap.size, 1, none⟩ = false := as_frozen h15
    have f2 : w5.frozen? ⟨w.heap.size, 2, none⟩ = false := as_frozen h15
    have f3 : w5.frozen? ⟨w.heap.size, 3, none⟩ = false := as_frozen h15
    have k0 : w5.frozen? ⟨w.heap.size + 1, 0, none⟩ = false := as_frozen h25
    have k1 : w5.frozen? ⟨w.heap.size + 1, 1, none⟩ = false := as_frozen h25
    have k2 : w5.frozen? ⟨w.heap.size + 1, 2, none⟩ = false := as_frozen h25
    have k3 : w5.frozen? ⟨w.heap.size + 1, 3, none⟩ = false := as_frozen h25
    have hset : ∀ g, w.heap.size + 2 ≤ g → g < w5.heap.size → (put4 (put4 w5 w.heap.size ⟨n1, n2, n3, n4, n5, n6⟩) (w.heap.size + 1) ⟨r1, r2, r3, r4, r5, r6⟩).heap[g]? = w5.heap[g]? := fun g hg _ => by
      rw [put4_block (by omega), put4_block (by omega)]
    have HE : Hid (GwPost t w (.returned (.tuple #[.agg #[.string n1, .string n2, .int .i64 n3, .slice n4 n5 n6], .agg #[.string r1, .string r2, .int .i64 r3, .slice r4 r5 r6]])) (put4 (put4 w5 w.heap.size ⟨n1, n2, n3, n4, n5, n6⟩) (w.heap.size + 1) ⟨r1, r2, r3, r4, r5, r6⟩)) := Lib.hid
      ⟨⟨n1, n2, n3, n4, n5, n6⟩, ⟨r1, r2, r3, r4, r5, r6⟩, rfl, (HV5.out.keep hset).less (by omega), (HU5.out.keep hset).less (by omega), put4_below (put4_below HB5.out (Nat.le_refl _) _) (by omega) _⟩
    clear hv5 hb5 HV5 HU5 HB5 HR14 HR24 HV4 HB4 hset h15 h25 CT
    simp only [Nd.val]
    go_wp2_with fail
    refine bodyPost_ret (v := .tuple #[.agg #[.string n1, .string n2, .int .i64 n3, .slice n4 n5 n6], .agg #[.string r1, .string r2, .int .i64 r3, .slice r4 r5 r6]]) ?_ rfl HE.out
    simp [results, Tryd.results8, go_sem, e0, e1, e2, e3, g0, g1, g2, g3]
end Go.Proofs.YtgahamppfdhnaaaDoor
