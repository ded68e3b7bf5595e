/-
 CONTRACTS of layer 13's single and within where just one node is read.
-/
import Derived.Test.YtmbfdkiejneheaaGreatDoorPaTk
import Derived.Test.YtmbfdkiejneheaaGreatDoorPaW5
namespace Go.Proofs.YtmbfdkiejneheaaGreatDoor
open Go.RowKit

theorem below_grown {n0 : Nat} {w w8 w9 : World} {lit : Obj} {v : Value} (h : Below n0 w w8) (hv : ∀ g, v.ownBlock = some g → n0 ≤ g) (hb : n0 ≤ w8.heap.size) (hg : (w8.alloc lit).grownBy w9 v.ownBlock) : Below n0 w w9 := by
 have hal : (w8.alloc lit).heap.size = w8.heap.size + 1 := by simp
 refine ⟨hg.os.trans h.os, hg.tape.trans h.tape, hg.output.trans h.output, by have := hg.size; have := h.size; omega, fun k hk => ?_⟩
 exact ((grown_at hg (by omega) (fun e => by have := hv k e; omega)).trans (Below.heap_alloc w8 lit k (by omega))).trans (h.block k hk)
set_option maxHeartbeats 8000000 in
set_option maxRecDepth 100000 in
theorem tk_sub (k a : Nat) (ts : List PT) (ns : List An) (p : Option Addr) (c n0 : Nat) (w : World) (h : RwA w n0 ts ns (.slice p ns.length c)) (hn : ns.length ≤ 6000) (hb : n0 ≤ w.heap.size) : Calls Tryz.prog 129 #[tokV ⟨k, [115, 117, 98], a⟩, .slice p ns.length c] w (TkPost ⟨k, [115, 117, 98], a⟩ ts n0 w) := by
 have hlen := h.tr.len
 have HB := kH ((Below.refl n0 w).alloc hb (.cells #[.int .i64 (k : Int), .string ⟨([115, 117, 98]).toArray⟩, .int .i64 (a : Int)] 60))
 unfold tokV
 by_cases h2 : ns.length = 2
 ·
  have e1 : (ns.length : Int) = 2 := by omega
  have HT0 := kH (BlkT.new w ⟨k, [115, 117, 98], a⟩)
  have HX : Hid (takenP ⟨k, [115, 117, 98], a⟩ ts = some (ts ++ [nd oField [.mk oNum [48] a []]])) := kH (by
   unfold takenP; rw [if_neg (show ¬ (([115, 117, 98] : List UInt8) = bLength) from by decide)]; rw [if_neg (show ¬ (([115, 117, 98] : List UInt8) = bRand) from by decide)]; rw [if_neg (show ¬ (([115, 117, 98] : List UInt8) = bSprintf) from by decide)]; rw [if_neg (show ¬ (([115, 117, 98] : List UInt8) = oIndex ∨ ([115, 117, 98] : List UInt8) = bMatch) from by decide)]; rw [if_pos (show ([115, 117, 98] : List UInt8) = bSub ∨ ([115, 117, 98] : List UInt8) = bGsub from by decide)]
   rcases ts with _ | ⟨x, _ | ⟨y, _ | ⟨z, r⟩⟩⟩
   ·
    simp only [List.length_nil] at hlen; omega
   ·
    simp only [List.length_nil, List.length_cons] at hlen; omega
   ·
    rfl
   ·
    simp only [List.length_cons] at hlen; omega)
  have HR := kH ((h.below ((Below.refl _ _).alloc (Nat.le_refl _) (.cells #[.int .i64 (k : Int), .string ⟨([115, 117, 98]).toArray⟩, .int .i64 (a : Int)] 60))).below ((Below.refl _ _).alloc (Nat.le_refl _) (.cells #[.string ⟨#[110, 117, 109]⟩, .string ⟨#[48]⟩, .int .i64 (a : Int), .slice none 0 0] 25)))
  have HB1 := kH (HB.out.alloc (by simp; omega) (.cells #[.string ⟨#[110, 117, 109]⟩, .string ⟨#[48]⟩, .int .i64 (a : Int), .slice none 0 0] 25))
  have HV : Hid (∀ g, (Value.slice p ns.length c).ownBlock = some g → g < w.heap.size) := kH fun g hg => (rg_own_base h.own g hg).2
  have HW1 : Hid (RwA ((w.alloc (.cells #[.int .i64 (k : Int), .string ⟨([115, 117, 98]).toArray⟩, .int .i64 (a : Int)] 60)).alloc (.cells #[.string ⟨#[110, 117, 109]⟩, .string ⟨#[48]⟩, .int .i64 (a : Int), .slice none 0 0] 25)) (w.alloc (.cells #[.int .i64 (k : Int), .string ⟨([115, 117, 98]).toArray⟩, .int .i64 (a : Int)] 60)).heap.size [.mk oNum [48] a []] [⟨bs oNum, bs [48], a, none, 0, 0⟩] (.slice (some ⟨(w.alloc (.cells #[.int .i64 (k : Int), .string ⟨([115, 117, 98]).toArray⟩, .int .i64 (a : Int)] 60)).heap.size, 0, none⟩) 1 1)) := kH (RwA.new1 (n := ⟨bs oNum, bs [48], a, none, 0, 0⟩) (TreeP.leaf _ _ oNum [48] a) (Nat.le_refl _))
  have hsz : (w.alloc (.cells #[.int .i64 (k : Int), .string ⟨([115, 117, 98]).toArray⟩, .int .i64 (a : Int)] 60)).heap.size = w.heap.size + 1 := by simp
  rw [hsz] at HW1
  have CN := kH fun o p n c W => pnode_any o p n c W
  have HN6 := kH (show ns.length = 2 ∧ n0 ≤ w.heap.size from ⟨h2, hb⟩)
  obtain ⟨i0, hi, hz0, hz1, hz2⟩ := info_parts Tryz.infoAst
  clear h hlen h2 hsz
  go_enter Tryz.func129, Tryz.ntmps129
  go_wp2_with fail
  refine (CN.out _ _ _ _ _).mono ?_
  rintro e w8 ⟨rfl, hb8⟩
  have HR8 := kH (HR.out.below hb8)
  have HT8 : Hid (TreeP w8 (fun k => w.heap.size + 1 ≤ k) (nd oField [.mk oNum [48] a []]) ⟨bs oField, ⟨#[]⟩, 0, some ⟨w.heap.size + 1, 0, none⟩, 1, 1⟩) := kH ((HW1.out.below hb8).nd oField)
  have HB8 := kH (HB1.out.trans (hb8.mono (by simp; have := HN6.out.2; omega)))
  have HS8 : Hid (w.heap.size + 2 ≤ w8.heap.size) := kH (by have := hb8.size; simpa using this)
  clear hb8
  unfold An.val
  go_wp2_with (at_builtin; refine wpList_append_own_at _ rfl (.tmp 31) (.tmp 37) 23 rfl n0 25 i0 (.agg #[.string ⟨#[]⟩, .string ⟨#[]⟩, .int .i64 0, .slice none 0 0]) 4 64 Tryz.underlying23 hi hz0 hz1 hz2 rfl (by decide) (.slice p ns.length c) ns.length (anRow ns) rfl (HR8.out.own.alloc _) ⟨w8.heap.size, 0, none⟩ 1 1 (An.vals ⟨bs oField, ⟨#[]⟩, 0, some ⟨w.heap.size + 1, 0, none⟩, 1, 1⟩) rfl rfl ?c1 ?c2 ?c3 ?c4 ?c5 ?_)
  case c1 => exact an_new w8 ⟨bs oField, ⟨#[]⟩, 0, some ⟨w.heap.size + 1, 0, none⟩, 1, 1⟩
  case c2 => simp [An.vals, Value.oneCell']
  case c3 => have := HN6.out.1; unfold maxLen; omega
  case c4 => have := HN6.out.1; omega
  case c5 => have := HN6.out.2; have := HS8.out; simp; omega
  intro v9 w9 hown9 hgrow9 _ hat9
  obtain ⟨g9, c9, rfl, hc9⟩ := rg_own_succ hown9
  have hA := RwA.app HR8.out HT8.out (fun g hg => by have := HV.out g hg; omega) (by have := HN6.out.2; omega) hgrow9 hat9 hown9
  have HB9 := kH (below_grown HB8.out (fun g hg => (rg_own_base HR8.out.own g hg).1) (by have := HN6.out.2; have := HS8.out; omega) hgrow9)
  have hl9 : (ns ++ [(⟨bs oField, ⟨#[]⟩, 0, some ⟨w.heap.size + 1, 0, none⟩, 1, 1⟩ : An)]).length = ns.length + 1 := by simp
  obtain ⟨⟨d0, d1, d2, d3⟩, _⟩ := anRow_cells (n := ns.length + 1) (by have := hA.own; rw [hl9] at this; exact this) 2 ⟨bs oField, ⟨#[]⟩, 0, some ⟨w.heap.size + 1, 0, none⟩, 1, 1⟩ (by rw [List.getElem?_append_right (by have := HN6.out.1; omega), HN6.out.1]; rfl)
  have HA := kH hA
  have HL9 := kH hl9
  have CI := kH fun W => pispl_any (nd oField [.mk oNum [48] a []]) ⟨bs oField, ⟨#[]⟩, 0, some ⟨w.heap.size + 1, 0, none⟩, 1, 1⟩ rfl W
  rw [show isPl (nd oField [.mk oNum [48] a []]) = true from rfl] at CI
  have e3 : (2 : Int) < (ns.length : Int) + 1 := by omega
  have e4 : (ns.length : Int) + 1 = 3 := by omega
  clear hA hl9 hown9 hgrow9 hat9
  unfold An.val at CI
  go_wp2_with fail
  refine (CI.out _).mono ?_
  rintro e w10 ⟨rfl, hb10⟩
  have HA10 := kH (HA.out.below hb10)
  have HB10 := kH (HB9.out.trans (hb10.mono (by have := HN6.out.2; have := HB9.out.size; omega)))
  clear hb10 d0 d1 d2 d3
  go_wp2_with fail
  exact bodyPost_ret (v := .tuple #[.slice (some ⟨g9, 0, none⟩) (ns.length + 1) c9, .bool true]) (by simp [results, Tryz.results129, go_sem]) rfl ⟨_, _, some ⟨g9, 0, none⟩, c9, true, by rw [HL9.out], by rw [HL9.out]; exact HA10.out, HB10.out, by rw [HL9.out]; have := HN6.out.1; omega, .inl ⟨rfl, HX.out⟩⟩
 ·
  by_cases h3 : ns.length = 3
  ·
   obtain ⟨x, y, z, rfl⟩ : ∃ x y z, ts = [x, y, z] := by
    rcases ts with _ | ⟨x, _ | ⟨y, _ | ⟨z, _ | ⟨u, r⟩⟩⟩⟩
    ·
     simp only [List.length_nil] at hlen; omega
    ·
     simp only [List.length_nil, List.length_cons] at hlen; omega
    ·
     simp only [List.length_nil, List.length_cons] at hlen; omega
    ·
     exact ⟨x, y, z, rfl⟩
    ·
     simp only [List.length_cons] at hlen; omega
   obtain ⟨n1, n2, n3, rfl⟩ : ∃ x y z, ns = [x, y, z] := by
    rcases ns with _ | ⟨x, _ | ⟨y, _ | ⟨z, _ | ⟨u, r⟩⟩⟩⟩
    ·
     simp only [List.length_nil] at h3; omega
    ·
     simp only [List.length_nil, List.length_cons] at h3; omega
    ·
     simp only [List.length_nil, List.length_cons] at h3; omega
    ·
     exact ⟨x, y, z, rfl⟩
    ·
     simp only [List.length_cons] at h3; omega
   have hz : n3.op = bs z.op := by
    have h4 := h.tr
    unfold TreesP at h4
    obtain ⟨_, _, e1, _, h5⟩ := h4
    obtain ⟨rfl, rfl⟩ := List.cons.inj e1
    unfold TreesP at h5
    obtain ⟨_, _, e2, _, h6⟩ := h5
    obtain ⟨rfl, rfl⟩ := List.cons.inj e2
    unfold TreesP at h6
    obtain ⟨_, _, e3, h7, _⟩ := h6
    obtain ⟨rfl, rfl⟩ := List.cons.inj e3
    exact h7.opx
   have HR := kH (h.below ((Below.refl _ _).alloc (Nat.le_refl _) (.cells #[.int .i64 (k : Int), .string ⟨([115, 117, 98]).toArray⟩, .int .i64 (a : Int)] 60)))
   have CI := kH fun W => pispl_any z n3 hz W
   obtain ⟨g, c', hv, hc9⟩ := rg_own_succ (n := 2) h.own
   obtain ⟨rfl, rfl⟩ : p = some ⟨g, 0, none⟩ ∧ c = c' := by injection hv with h1 h2 h3; exact ⟨h1, h3⟩
   obtain ⟨⟨d0, d1, d2, d3⟩, _⟩ := anRow_cells (n := 3) h.own 2 n3 rfl
   have hgl := (rg_own_base h.own g rfl).2
   unfold An.val at CI
   simp only [List.length_cons, List.length_nil, Nat.reduceAdd]
   have HBS := kH hb
   clear h hlen h2 h3 hv hz
   cases hpz : isPl z with
   | true =>
    rw [hpz] at CI
    have HX : Hid (takenP ⟨k, [115, 117, 98], a⟩ [x, y, z] = some [x, y, z]) := kH (by
     unfold takenP; rw [if_neg (show ¬ (([115, 117, 98] : List UInt8) = bLength) from by decide)]; rw [if_neg (show ¬ (([115, 117, 98] : List UInt8) = bRand) from by decide)]; rw [if_neg (show ¬ (([115, 117, 98] : List UInt8) = bSprintf) from by decide)]; rw [if_neg (show ¬ (([115, 117, 98] : List UInt8) = oIndex ∨ ([115, 117, 98] : List UInt8) = bMatch) from by decide)]; rw [if_pos (show ([115, 117, 98] : List UInt8) = bSub ∨ ([115, 117, 98] : List UInt8) = bGsub from by decide)]
     show (if isPl z = true then some [x, y, z] else none) = _
     rw [if_pos hpz])
    clear hpz
    go_enter Tryz.func129, Tryz.ntmps129
    go_wp2_with fail
    refine (CI.out _).mono ?_
    rintro e w10 ⟨rfl, hb10⟩
    have HA10 := kH (HR.out.below hb10)
    have HB10 := kH (HB.out.trans (hb10.mono (by have := HBS.out; simp; omega)))
    clear hb10 d0 d1 d2 d3
    go_wp2_with fail
    exact bodyPost_ret (v := .tuple #[.slice (some ⟨g, 0, none⟩) 3 c, .bool true]) (by simp [results, Tryz.results129, go_sem]) rfl ⟨_, [n1, n2, n3], some ⟨g, 0, none⟩, c, true, rfl, HA10.out, HB10.out, by simp, .inl ⟨rfl, HX.out⟩⟩
   | false =>
    rw [hpz] at CI
    have HX : Hid (takenP ⟨k, [115, 117, 98], a⟩ [x, y, z] = none) := kH (by
     unfold takenP; rw [if_neg (show ¬ (([115, 117, 98] : List UInt8) = bLength) from by decide)]; rw [if_neg (show ¬ (([115, 117, 98] : List UInt8) = bRand) from by decide)]; rw [if_neg (show ¬ (([115, 117, 98] : List UInt8) = bSprintf) from by decide)]; rw [if_neg (show ¬ (([115, 117, 98] : List UInt8) = oIndex ∨ ([115, 117, 98] : List UInt8) = bMatch) from by decide)]; rw [if_pos (show ([115, 117, 98] : List UInt8) = bSub ∨ ([115, 117, 98] : List UInt8) = bGsub from by decide)]
     show (if isPl z = true then some [x, y, z] else none) = _
     rw [if_neg (by rw [hpz]; decide)])
    clear hpz
    go_enter Tryz.func129, Tryz.ntmps129
    go_wp2_with fail
    refine (CI.out _).mono ?_
    rintro e w10 ⟨rfl, hb10⟩
    have HB10 := kH (HB.out.trans (hb10.mono (by have := HBS.out; simp; omega)))
    clear hb10 d0 d1 d2 d3
    go_wp2_with fail
    exact bodyPost_ret (v := .tuple #[.slice none 0 0, .bool false]) (by simp [results, Tryz.results129, go_sem]) rfl ⟨[], [], none, 0, false, rfl, RwA.nil _ _, HB10.out, by simp, .inr ⟨rfl, HX.out⟩⟩
  ·
   have e1 : ¬ (ns.length : Int) = 2 := by omega
   have e3 : ¬ (ns.length : Int) = 3 := by omega
   have e4 : ((ns.length : Int) == 2) = false := by rw [beq_eq_false_iff_ne]; exact e1
   have e5 : ((ns.length : Int) != 3) = true := by rw [bne_iff_ne]; exact e3
   have HX : Hid (takenP ⟨k, [115, 117, 98], a⟩ ts = none) := kH (by
    unfold takenP; rw [if_neg (show ¬ (([115, 117, 98] : List UInt8) = bLength) from by decide)]; rw [if_neg (show ¬ (([115, 117, 98] : List UInt8) = bRand) from by decide)]; rw [if_neg (show ¬ (([115, 117, 98] : List UInt8) = bSprintf) from by decide)]; rw [if_neg (show ¬ (([115, 117, 98] : List UInt8) = oIndex ∨ ([115, 117, 98] : List UInt8) = bMatch) from by decide)]; rw [if_pos (show ([115, 117, 98] : List UInt8) = bSub ∨ ([115, 117, 98] : List UInt8) = bGsub from by decide)]
    rcases ts with _ | ⟨x, _ | ⟨y, _ | ⟨z, _ | ⟨u, r⟩⟩⟩⟩
    ·
     rfl
    ·
     rfl
    ·
     simp only [List.length_nil, List.length_cons] at hlen; omega
    ·
     simp only [List.length_nil, List.length_cons] at hlen; omega
    ·
     rfl)
   clear h hlen h2 h3
   go_enter Tryz.func129, Tryz.ntmps129
   go_wp2_with fail
   exact bodyPost_ret (v := .tuple #[.slice none 0 0, .bool false]) (by simp [results, Tryz.results129, go_sem]) rfl ⟨[], [], none, 0, false, rfl, RwA.nil _ _, HB.out, by simp, .inr ⟨rfl, HX.out⟩⟩
set_option maxHeartbeats 8000000 in
set_option maxRecDepth 100000 in
theorem tk_gsub (k a : Nat) (ts : List PT) (ns : List An) (p : Option Addr) (c n0 : Nat) (w : World) (h : RwA w n0 ts ns (.slice p ns.length c)) (hn : ns.length ≤ 6000) (hb : n0 ≤ w.heap.size) : Calls Tryz.prog 129 #[tokV ⟨k, [103, 115, 117, 98], a⟩, .slice p ns.length c] w (TkPost ⟨k, [103, 115, 117, 98], a⟩ ts n0 w) := by
 have hlen := h.tr.len
 have HB := kH ((Below.refl n0 w).alloc hb (.cells #[.int .i64 (k : Int), .string ⟨([103, 115, 117, 98]).toArray⟩, .int .i64 (a : Int)] 60))
 unfold tokV
 by_cases h2 : ns.length = 2
 ·
  have e1 : (ns.length : Int) = 2 := by omega
  have HT0 := kH (BlkT.new w ⟨k, [103, 115, 117, 98], a⟩)
  have HX : Hid (takenP ⟨k, [103, 115, 117, 98], a⟩ ts = some (ts ++ [nd oField [.mk oNum [48] a []]])) := kH (by
   unfold takenP; rw [if_neg (show ¬ (([103, 115, 117, 98] : List UInt8) = bLength) from by decide)]; rw [if_neg (show ¬ (([103, 115, 117, 98] : List UInt8) = bRand) from by decide)]; rw [if_neg (show ¬ (([103, 115, 117, 98] : List UInt8) = bSprintf) from by decide)]; rw [if_neg (show ¬ (([103, 115, 117, 98] : List UInt8) = oIndex ∨ ([103, 115, 117, 98] : List UInt8) = bMatch) from by decide)]; rw [if_pos (show ([103, 115, 117, 98] : List UInt8) = bSub ∨ ([103, 115, 117, 98] : List UInt8) = bGsub from by decide)]
   rcases ts with _ | ⟨x, _ | ⟨y, _ | ⟨z, r⟩⟩⟩
   ·
    simp only [List.length_nil] at hlen; omega
   ·
    simp only [List.length_nil, List.length_cons] at hlen; omega
   ·
    rfl
   ·
    simp only [List.length_cons] at hlen; omega)
  have HR := kH ((h.below ((Below.refl _ _).alloc (Nat.le_refl _) (.cells #[.int .i64 (k : Int), .string ⟨([103, 115, 117, 98]).toArray⟩, .int .i64 (a : Int)] 60))).below ((Below.refl _ _).alloc (Nat.le_refl _) (.cells #[.string ⟨#[110, 117, 109]⟩, .string ⟨#[48]⟩, .int .i64 (a : Int), .slice none 0 0] 25)))
  have HB1 := kH (HB.out.alloc (by simp; omega) (.cells #[.string ⟨#[110, 117, 109]⟩, .string ⟨#[48]⟩, .int .i64 (a : Int), .slice none 0 0] 25))
  have HV : Hid (∀ g, (Value.slice p ns.length c).ownBlock = some g → g < w.heap.size) := kH fun g hg => (rg_own_base h.own g hg).2
  have HW1 : Hid (RwA ((w.alloc (.cells #[.int .i64 (k : Int), .string ⟨([103, 115, 117, 98]).toArray⟩, .int .i64 (a : Int)] 60)).alloc (.cells #[.string ⟨#[110, 117, 109]⟩, .string ⟨#[48]⟩, .int .i64 (a : Int), .slice none 0 0] 25)) (w.alloc (.cells #[.int .i64 (k : Int), .string ⟨([103, 115, 117, 98]).toArray⟩, .int .i64 (a : Int)] 60)).heap.size [.mk oNum [48] a []] [⟨bs oNum, bs [48], a, none, 0, 0⟩] (.slice (some ⟨(w.alloc (.cells #[.int .i64 (k : Int), .string ⟨([103, 115, 117, 98]).toArray⟩, .int .i64 (a : Int)] 60)).heap.size, 0, none⟩) 1 1)) := kH (RwA.new1 (n := ⟨bs oNum, bs [48], a, none, 0, 0⟩) (TreeP.leaf _ _ oNum [48] a) (Nat.le_refl _))
  have hsz : (w.alloc (.cells #[.int .i64 (k : Int), .string ⟨([103, 115, 117, 98]).toArray⟩, .int .i64 (a : Int)] 60)).heap.size = w.heap.size + 1 := by simp
  rw [hsz] at HW1
  have CN := kH fun o p n c W => pnode_any o p n c W
  have HN6 := kH (show ns.length = 2 ∧ n0 ≤ w.heap.size from ⟨h2, hb⟩)
  obtain ⟨i0, hi, hz0, hz1, hz2⟩ := info_parts Tryz.infoAst
  clear h hlen h2 hsz
  go_enter Tryz.func129, Tryz.ntmps129
  go_wp2_with fail
  refine (CN.out _ _ _ _ _).mono ?_
  rintro e w8 ⟨rfl, hb8⟩
  have HR8 := kH (HR.out.below hb8)
  have HT8 : Hid (TreeP w8 (fun k => w.heap.size + 1 ≤ k) (nd oField [.mk oNum [48] a []]) ⟨bs oField, ⟨#[]⟩, 0, some ⟨w.heap.size + 1, 0, none⟩, 1, 1⟩) := kH ((HW1.out.below hb8).nd oField)
  have HB8 := kH (HB1.out.trans (hb8.mono (by simp; have := HN6.out.2; omega)))
  have HS8 : Hid (w.heap.size + 2 ≤ w8.heap.size) := kH (by have := hb8.size; simpa using this)
  clear hb8
  unfold An.val
  go_wp2_with (at_builtin; refine wpList_append_own_at _ rfl (.tmp 31) (.tmp 37) 23 rfl n0 25 i0 (.agg #[.string ⟨#[]⟩, .string ⟨#[]⟩, .int .i64 0, .slice none 0 0]) 4 64 Tryz.underlying23 hi hz0 hz1 hz2 rfl (by decide) (.slice p ns.length c) ns.length (anRow ns) rfl (HR8.out.own.alloc _) ⟨w8.heap.size, 0, none⟩ 1 1 (An.vals ⟨bs oField, ⟨#[]⟩, 0, some ⟨w.heap.size + 1, 0, none⟩, 1, 1⟩) rfl rfl ?c1 ?c2 ?c3 ?c4 ?c5 ?_)
  case c1 => exact an_new w8 ⟨bs oField, ⟨#[]⟩, 0, some ⟨w.heap.size + 1, 0, none⟩, 1, 1⟩
  case c2 => simp [An.vals, Value.oneCell']
  case c3 => have := HN6.out.1; unfold maxLen; omega
  case c4 => have := HN6.out.1; omega
  case c5 => have := HN6.out.2; have := HS8.out; simp; omega
  intro v9 w9 hown9 hgrow9 _ hat9
  obtain ⟨g9, c9, rfl, hc9⟩ := rg_own_succ hown9
  have hA := RwA.app HR8.out HT8.out (fun g hg => by have := HV.out g hg; omega) (by have := HN6.out.2; omega) hgrow9 hat9 hown9
  have HB9 := kH (below_grown HB8.out (fun g hg => (rg_own_base HR8.out.own g hg).1) (by have := HN6.out.2; have := HS8.out; omega) hgrow9)
  have hl9 : (ns ++ [(⟨bs oField, ⟨#[]⟩, 0, some ⟨w.heap.size + 1, 0, none⟩, 1, 1⟩ : An)]).length = ns.length + 1 := by simp
  obtain ⟨⟨d0, d1, d2, d3⟩, _⟩ := anRow_cells (n := ns.length + 1) (by have := hA.own; rw [hl9] at this; exact this) 2 ⟨bs oField, ⟨#[]⟩, 0, some ⟨w.heap.size + 1, 0, none⟩, 1, 1⟩ (by rw [List.getElem?_append_right (by have := HN6.out.1; omega), HN6.out.1]; rfl)
  have HA := kH hA
  have HL9 := kH hl9
  have CI := kH fun W => pispl_any (nd oField [.mk oNum [48] a []]) ⟨bs oField, ⟨#[]⟩, 0, some ⟨w.heap.size + 1, 0, none⟩, 1, 1⟩ rfl W
  rw [show isPl (nd oField [.mk oNum [48] a []]) = true from rfl] at CI
  have e3 : (2 : Int) < (ns.length : Int) + 1 := by omega
  have e4 : (ns.length : Int) + 1 = 3 := by omega
  clear hA hl9 hown9 hgrow9 hat9
  unfold An.val at CI
  go_wp2_with fail
  refine (CI.out _).mono ?_
  rintro e w10 ⟨rfl, hb10⟩
  have HA10 := kH (HA.out.below hb10)
  have HB10 := kH (HB9.out.trans (hb10.mono (by have := HN6.out.2; have := HB9.out.size; omega)))
  clear hb10 d0 d1 d2 d3
  go_wp2_with fail
  exact bodyPost_ret (v := .tuple #[.slice (some ⟨g9, 0, none⟩) (ns.length + 1) c9, .bool true]) (by simp [results, Tryz.results129, go_sem]) rfl ⟨_, _, some ⟨g9, 0, none⟩, c9, true, by rw [HL9.out], by rw [HL9.out]; exact HA10.out, HB10.out, by rw [HL9.out]; have := HN6.out.1; omega, .inl ⟨rfl, HX.out⟩⟩
 ·
  by_cases h3 : ns.length = 3
  ·
   obtain ⟨x, y, z, rfl⟩ : ∃ x y z, ts = [x, y, z] := by
    rcases ts with _ | ⟨x, _ | ⟨y, _ | ⟨z, _ | ⟨u, r⟩⟩⟩⟩
    ·
     simp only [List.length_nil] at hlen; omega
    ·
     simp only [List.length_nil, List.length_cons] at hlen; omega
    ·
     simp only [List.length_nil, List.length_cons] at hlen; omega
    ·
     exact ⟨x, y, z, rfl⟩
    ·
     simp only [List.length_cons] at hlen; omega
   obtain ⟨n1, n2, n3, rfl⟩ : ∃ x y z, ns = [x, y, z] := by
    rcases ns with _ | ⟨x, _ | ⟨y, _ | ⟨z, _ | ⟨u, r⟩⟩⟩⟩
    ·
     simp only [List.length_nil] at h3; omega
    ·
     simp only [List.length_nil, List.length_cons] at h3; omega
    ·
     simp only [List.length_nil, List.length_cons] at h3; omega
    ·
     exact ⟨x, y, z, rfl⟩
    ·
     simp only [List.length_cons] at h3; omega
   have hz : n3.op = bs z.op := by
    have h4 := h.tr
    unfold TreesP at h4
    obtain ⟨_, _, e1, _, h5⟩ := h4
    obtain ⟨rfl, rfl⟩ := List.cons.inj e1
    unfold TreesP at h5
    obtain ⟨_, _, e2, _, h6⟩ := h5
    obtain ⟨rfl, rfl⟩ := List.cons.inj e2
    unfold TreesP at h6
    obtain ⟨_, _, e3, h7, _⟩ := h6
    obtain ⟨rfl, rfl⟩ := List.cons.inj e3
    exact h7.opx
   have HR := kH (h.below ((Below.refl _ _).alloc (Nat.le_refl _) (.cells #[.int .i64 (k : Int), .string ⟨([103, 115, 117, 98]).toArray⟩, .int .i64 (a : Int)] 60)))
   have CI := kH fun W => pispl_any z n3 hz W
   obtain ⟨g, c', hv, hc9⟩ := rg_own_succ (n := 2) h.own
   obtain ⟨rfl, rfl⟩ : p = some ⟨g, 0, none⟩ ∧ c = c' := by injection hv with h1 h2 h3; exact ⟨h1, h3⟩
   obtain ⟨⟨d0, d1, d2, d3⟩, _⟩ := anRow_cells (n := 3) h.own 2 n3 rfl
   have hgl := (rg_own_base h.own g rfl).2
   unfold An.val at CI
   simp only [List.length_cons, List.length_nil, Nat.reduceAdd]
   have HBS := kH hb
   clear h hlen h2 h3 hv hz
   cases hpz : isPl z with
   | true =>
    rw [hpz] at CI
    have HX : Hid (takenP ⟨k, [103, 115, 117, 98], a⟩ [x, y, z] = some [x, y, z]) := kH (by
     unfold takenP; rw [if_neg (show ¬ (([103, 115, 117, 98] : List UInt8) = bLength) from by decide)]; rw [if_neg (show ¬ (([103, 115, 117, 98] : List UInt8) = bRand) from by decide)]; rw [if_neg (show ¬ (([103, 115, 117, 98] : List UInt8) = bSprintf) from by decide)]; rw [if_neg (show ¬ (([103, 115, 117, 98] : List UInt8) = oIndex ∨ ([103, 115, 117, 98] : List UInt8) = bMatch) from by decide)]; rw [if_pos (show ([103, 115, 117, 98] : List UInt8) = bSub ∨ ([103, 115, 117, 98] : List UInt8) = bGsub from by decide)]
     show (if isPl z = true then some [x, y, z] else none) = _
     rw [if_pos hpz])
    clear hpz
    go_enter Tryz.func129, Tryz.ntmps129
    go_wp2_with fail
    refine (CI.out _).mono ?_
    rintro e w10 ⟨rfl, hb10⟩
    have HA10 := kH (HR.out.below hb10)
    have HB10 := kH (HB.out.trans (hb10.mono (by have := HBS.out; simp; omega)))
    clear hb10 d0 d1 d2 d3
    go_wp2_with fail
    exact bodyPost_ret (v := .tuple #[.slice (some ⟨g, 0, none⟩) 3 c, .bool true]) (by simp [results, Tryz.results129, go_sem]) rfl ⟨_, [n1, n2, n3], some ⟨g, 0, none⟩, c, true, rfl, HA10.out, HB10.out, by simp, .inl ⟨rfl, HX.out⟩⟩
   | false =>
    rw [hpz] at CI
    have HX : Hid (takenP ⟨k, [103, 115, 117, 98], a⟩ [x, y, z] = none) := kH (by
     unfold takenP; rw [if_neg (show ¬ (([103, 115, 117, 98] : List UInt8) = bLength) from by decide)]; rw [if_neg (show ¬ (([103, 115, 117, 98] : List UInt8) = bRand) from by decide)]; rw [if_neg (show ¬ (([103, 115, 117, 98] : List UInt8) = bSprintf) from by decide)]; rw [if_neg (show ¬ (([103, 115, 117, 98] : List UInt8) = oIndex ∨ ([103, 115, 117, 98] : List UInt8) = bMatch) from by decide)]; rw [if_pos (show ([103, 115, 117, 98] : List UInt8) = bSub ∨ ([103, 115, 117, 98] : List UInt8) = bGsub from by decide)]
     show (if isPl z = true then some [x, y, z] else none) = _
     rw [if_neg (by rw [hpz]; decide)])
    clear hpz
    go_enter Tryz.func129, Tryz.ntmps129
    go_wp2_with fail
    refine (CI.out _).mono ?_
    rintro e w10 ⟨rfl, hb10⟩
    have HB10 := kH (HB.out.trans (hb10.mono (by have := HBS.out; simp; omega)))
    clear hb10 d0 d1 d2 d3
    go_wp2_with fail
    exact bodyPost_ret (v := .tuple #[.slice none 0 0, .bool false]) (by simp [results, Tryz.results129, go_sem]) rfl ⟨[], [], none, 0, false, rfl, RwA.nil _ _, HB10.out, by simp, .inr ⟨rfl, HX.out⟩⟩
  ·
   have e1 : ¬ (ns.length : Int) = 2 := by omega
   have e3 : ¬ (ns.length : Int) = 3 := by omega
   have e4 : ((ns.length : Int) == 2) = false := by rw [beq_eq_false_iff_ne]; exact e1
   have e5 : ((ns.length : Int) != 3) = true := by rw [bne_iff_ne]; exact e3
   have HX : Hid (takenP ⟨k, [103, 115, 117, 98], a⟩ ts = none) := kH (by
    unfold takenP; rw [if_neg (show ¬ (([103, 115, 117, 98] : List UInt8) = bLength) from by decide)]; rw [if_neg (show ¬ (([103, 115, 117, 98] : List UInt8) = bRand) from by decide)]; rw [if_neg (show ¬ (([103, 115, 117, 98] : List UInt8) = bSprintf) from by decide)]; rw [if_neg (show ¬ (([103, 115, 117, 98] : List UInt8) = oIndex ∨ ([103, 115, 117, 98] : List UInt8) = bMatch) from by decide)]; rw [if_pos (show ([103, 115, 117, 98] : List UInt8) = bSub ∨ ([103, 115, 117, 98] : List UInt8) = bGsub from by decide)]
    rcases ts with _ | ⟨x, _ | ⟨y, _ | ⟨z, _ | ⟨u, r⟩⟩⟩⟩
    ·
     rfl
    ·
     rfl
    ·
     simp only [List.length_nil, List.length_cons] at hlen; omega
    ·
     simp only [List.length_nil, List.length_cons] at hlen; omega
    ·
     rfl)
   clear h hlen h2 h3
   go_enter Tryz.func129, Tryz.ntmps129
   go_wp2_with fail
   exact bodyPost_ret (v := .tuple #[.slice none 0 0, .bool false]) (by simp [results, Tryz.results129, go_sem]) rfl ⟨[], [], none, 0, false, rfl, RwA.nil _ _, HB.out, by simp, .inr ⟨rfl, HX.out⟩⟩
theorem ptaken_any (t : Tok) (ts : List PT) (ns : List An) (p : Option Addr) (c n0 : Nat) (w : World) (h : RwA w n0 ts ns (.slice p ns.length c)) (hn : ns.length ≤ 6000) (hb : n0 ≤ w.heap.size) : Calls Tryz.prog 129 #[tokV t, .slice p ns.length c] w (TkPost t ts n0 w) := by
 obtain ⟨k, tx, a⟩ := t
 by_cases q0 : tx = bLength
 ·
  subst q0; exact tk_length k a ts ns p c n0 w h hn hb
 by_cases q1 : tx = bRand
 ·
  subst q1; exact tk_rand k a ts ns p c n0 w h hn hb
 by_cases q2 : tx = bSprintf
 ·
  subst q2; exact tk_sprintf k a ts ns p c n0 w h hn hb
 by_cases q3 : tx = oIndex
 ·
  subst q3; exact tk_index k a ts ns p c n0 w h hn hb
 by_cases q4 : tx = bMatch
 ·
  subst q4; exact tk_match k a ts ns p c n0 w h hn hb
 by_cases q5 : tx = bSub
 ·
  subst q5; exact tk_sub k a ts ns p c n0 w h hn hb
 by_cases q6 : tx = bGsub
 ·
  subst q6; exact tk_gsub k a ts ns p c n0 w h hn hb
 by_cases q7 : tx = bSplit
 ·
  subst q7; exact tk_split k a ts ns p c n0 w h hn hb
 by_cases q8 : tx = bSubstr
 ·
  subst q8; exact tk_substr k a ts ns p c n0 w h hn hb
 exact tk_other k a tx q0 q1 q2 q3 q4 q5 q6 q7 q8 ts ns p c n0 w h hn hb
end Go.Proofs.YtmbfdkiejneheaaGreatDoor

namespace Go.Proofs.YtmbfdkiejneheaaGreatDoor
open Go.RowKit

def tkR (t : Tok) (ts : List PT) (l2 : List Tok) : TR PT := match takenP t ts with
 | some us => .ok (named oBuiltin t us, l2)
 | none => .error (t.a, if t.t = bSrand ∧ ts.length = 0 then 10 else 9)
theorem builtin_eq (R : Rc) (l : List Tok) : builtinP R l = if (tk l).t = bLength ∧ fx (nx l) ≠ [40] then .ok (named oBuiltin (tk l) [], nx l) else bnd (listP (R.E false) (nx l)) (tkR (tk l)) := by
 unfold builtinP
 split
 ·
  rfl
 ·
  first
  | rfl
  | (congr 1; done)
  | (congr 1; funext ts l2; unfold tkR; cases takenP (tk l) ts <;> rfl)
theorem Mv.mid {K : Ps} {w w1 w2 : World} {l : List Tok} {dp : Nat} {pr : Bool} {er : ErO} (h : Mv K w l dp pr er w1) {B : Nat} (hb : Below B w1 w2) (hB : w.heap.size ≤ B) (hK : K.b < w.heap.size ∧ K.g < w.heap.size) : Mv K w l dp pr er w2 :=
 ⟨h.1.kept fun k _ he => hb.block k (by rcases he with rfl | rfl; exact Nat.lt_of_lt_of_le hK.1 hB; exact Nat.lt_of_lt_of_le hK.2 hB), hb.os.trans h.2.os, hb.tape.trans h.2.tape, hb.output.trans h.2.output, Nat.le_trans h.2.size hb.size, fun k hk hne => (hb.block k (Nat.lt_of_lt_of_le hk hB)).trans (h.2.block k hk hne)⟩
set_option maxHeartbeats 8000000 in
set_option maxRecDepth 100000 in
theorem pbuiltin_any {reOk : List UInt8 → Bool} {K : Ps} {m : Nat} (IE : OkE reOk K m 59 fun R pr => R.E pr)  (dp : Nat) (pr : Bool) (l : List Tok) (er : ErO) (w : World) (hd : DpOk dp l) (hl : l.length ≤ m) (hk : (tk l).k ≠ 0) (h : Pst w K l dp pr er) :
  Calls Tryz.prog 126 #[.pointer (some ⟨K.b, 0, none⟩)] w (NdPost K w w.heap.size l (builtinP (rcP reOk (50 - dp)) l) dp pr er) := by
 have CN := kH (pnext_any K l dp pr er)
 have CC := kH (pcomes_any K (nx l) dp pr er [40])
 have hlt := h.tll.nx.2.2.2 hk
 have CL := kH fun W hW => plist_any IE dp pr (nx l) er W (hd.live (Nat.le_refl _) (two_of h.tll hk)) (by omega) hW
 have CK := kH fun ts ns p c n0 W hr hn hb => ptaken_any (tk l) ts ns p c n0 W hr hn hb
 have CF := kH fun l1 er1 (n : Nat) (hn : n ≠ 0) => pfail_any K l1 dp pr er1 ((tk l).a, n) hn
 have CM := kH fun o t p n c W => pnamed_any o t p n c W
 have HTL := kH h.tll.nx
 have HLN : Hid (l.length ≤ 5000) := kH (by have := h.pos; omega)
 have HK : Hid (K.b < w.heap.size ∧ K.g < w.heap.size) := kH ⟨h.lt, h.glt⟩
 have HNZ : Hid (w.heap.size ≠ K.b) := kH (by have := HK.out; omega)
 have HN := kH (BlkA.new0 w)
 have H0 := kH ((Mv.refl h).alloc zN)
 have HSZ : Hid (w.heap.size + 1 = (w.alloc zN).heap.size) := kH (by simp)
 clear IE hd hl hk hlt h
 go_enter Tryz.func126, Tryz.ntmps126
 go_wp2_with fail
 generalize w.alloc zN = w0 at *
 refine (CN.out _ H0.out.st).mono ?_
 rintro e w1 ⟨rfl, m1⟩
 have HN := kH (HN.out.onl m1.2 HNZ.out)
 have H1 := kH (H0.out.trans m1)
 clear m1
 have HBHT1 : Hid (w1.heap.size ≠ K.b) := kH (by have := H1.out.st.lt; omega)
 have HN := kH (HN.out.alloc (.cells #[.int .i64 ((tk l)).k, .string ⟨((tk l)).t.toArray⟩, .int .i64 ((tk l)).a] 60))
 have HT1 := kH (BlkT.new w1 (tk l))
 have H1 := kH (H1.out.alloc (.cells #[.int .i64 ((tk l)).k, .string ⟨((tk l)).t.toArray⟩, .int .i64 ((tk l)).a] 60))
 obtain ⟨d0, d1, d2, dk0, dk1, dk2⟩ := HT1.out.cells
 unfold tokV
 by_cases hb : (tk l).t = bLength
 ·
  have hb2 : ((tk l).t == [108, 101, 110, 103, 116, 104]) = true := by rw [hb]; rfl
  have HB := kH hb
  clear hb
  by_cases hc : fx (nx l) = [40]
  ·
   have HX : Hid (builtinP (rcP reOk (50 - dp)) l = bnd (listP ((rcP reOk (50 - dp)).E false) (nx l)) (tkR (tk l))) := kH (by rw [builtin_eq, if_neg (fun e => e.2 hc)])
   rw [decide_eq_true hc] at CC
   clear hc
   go_wp2_with fail
   refine (CC.out _ H1.out.st).mono ?_
   rintro e w2 ⟨rfl, m2⟩
   have HN := kH (HN.out.onl m2.2 HNZ.out)
   have HT1 := kH (HT1.out.onl m2.2 HBHT1.out)
   have H2 := kH (H1.out.trans m2)
   clear m2
   obtain ⟨g0, g1, g2, gk0, gk1, gk2⟩ := HT1.out.cells
   go_wp2_with fail
   have HLT1 := kH HT1.out.lt
   have HLT := kH HN.out.lt
   refine (CL.out _ H2.out.st).mono ?_
   rintro e w3 ⟨ts, ns, p, c, l3, er3, rfl, r3, m3, rw3, ln3⟩
   have HN := kH (HN.out.onl m3.2 HNZ.out)
   have HT1 := kH (HT1.out.onl m3.2 HBHT1.out)
   have HR3 := kH r3
   have HW3 := kH rw3
   have HS3 := kH m3.2.size
   have HNS : Hid (ns.length ≤ 6000) := kH (by have := HLN.out; have := HTL.out.1.length_le; omega)
   have H3 := kH (H2.out.trans m3)
   clear m3 r3 rw3 ln3
   obtain ⟨g30, g31, g32, g3k0, g3k1, g3k2⟩ := HT1.out.cells
   go_wp2_with fail
   refine (CK.out ts ns p c _ w3 HW3.out HNS.out HS3.out).mono ?_
   rintro e w4 ⟨us, ms, q, d, ok, rfl, rw4, hb4, ln4, htk⟩
   have HTK := kH htk
   have HW4 := kH (rw4.low (n1 := w.heap.size + 1) (by have := HLT.out; exact this))
   have HN := kH (show BlkA w4 w.heap.size An.zero from (hb4.block _ HLT.out).trans HN.out)
   have HT1 := kH (show BlkT w4 w1.heap.size (tk l) from (hb4.block _ HLT1.out).trans HT1.out)
   have H4 := kH (Mv.mid H3.out hb4 (by have := HLT.out; omega) HK.out)
   clear hb4 rw4 ln4 htk
   rcases HTK.out with ⟨rfl, hok⟩ | ⟨rfl, hno⟩
   ·
    have HO := kH hok
    clear hok HTK
    obtain ⟨e0, e1, e2, ek0, ek1, ek2⟩ := HT1.out.cells
    go_wp2_with fail
    refine (CM.out _ (tk l) _ _ _ _).mono ?_
    rintro e w5 ⟨rfl, hb5⟩
    have HW5 := kH (HW4.out.below hb5)
    have HN := kH (HN.out.below hb5)
    have HT1 := kH (HT1.out.below hb5)
    have H5 := kH (H4.out.below hb5)
    clear hb5
    unfold An.val

    obtain ⟨z0, z1, z2, z3, zk0, zk1, zk2, zk3⟩ := HN.out.cells
    go_wp2_with fail
    exact bodyPost_ret (v := An.val ⟨bs oBuiltin, bs (tk l).t, (tk l).a, q, ms.length, d⟩) (by simp [results, Tryz.results126, go_sem, An.val, z0, z1, z2, z3] <;> rfl) rfl (NdPost.put (n := ⟨bs oBuiltin, bs (tk l).t, (tk l).a, q, ms.length, d⟩) (by rw [HX.out]; exact (HR3.out.bnd (by unfold tkR; rw [HO.out]; exact Res.ret HR3.out.ne)).pre HTL.out.1) H5.out (HW5.out.named oBuiltin (tk l)) HK.out)
   ·
    have HO := kH hno
    have HLW := kH HW3.out.tr.len
    clear hno HTK
    by_cases hs : (tk l).t = bSrand
    ·
     have hs2 : ((tk l).t == [115, 114, 97, 110, 100]) = true := by rw [hs]; rfl
     have HS := kH hs
     clear hs
     by_cases hz : ns.length = 0
     ·
      have hz1 : ((ns.length : Int) == 0) = true := by rw [hz]; rfl
      have HZ := kH (show ts.length = 0 from by have := HLW.out; omega)
      clear hz
      obtain ⟨e0, e1, e2, ek0, ek1, ek2⟩ := HT1.out.cells
      go_wp2_with fail
      refine ((CF.out _ _ 10 (by decide)) _ H4.out.st).mono ?_
      rintro e w5 ⟨rfl, m5⟩
      have HW4 := kH (HW4.out.onl m5.2 (by have := HK.out; omega))
      have HN := kH (HN.out.onl m5.2 HNZ.out)
      have HT1 := kH (HT1.out.onl m5.2 HBHT1.out)
      have H5 := kH (H4.out.trans m5)
      clear m5
      obtain ⟨f0, f1, f2, fk0, fk1, fk2⟩ := HT1.out.cells

      go_wp2_with fail
      refine (CM.out _ (tk l) _ _ _ _).mono ?_
      rintro e w6 ⟨rfl, hb6⟩
      have HW5 := kH (HW4.out.below hb6)
      have HN := kH (HN.out.below hb6)
      have HT1 := kH (HT1.out.below hb6)
      have H6 := kH (H5.out.below hb6)
      clear hb6
      unfold An.val
      obtain ⟨z0, z1, z2, z3, zk0, zk1, zk2, zk3⟩ := HN.out.cells
      go_wp2_with fail
      exact bodyPost_ret (v := An.val ⟨bs oBuiltin, bs (tk l).t, (tk l).a, q, ms.length, d⟩) (by simp [results, Tryz.results126, go_sem, An.val, z0, z1, z2, z3] <;> rfl) rfl (NdPost.put (n := ⟨bs oBuiltin, bs (tk l).t, (tk l).a, q, ms.length, d⟩) (by rw [HX.out]; exact (HR3.out.bnd (Res.fail _ HR3.out.ne (by unfold tkR; rw [HO.out]; simp only; rw [if_pos ⟨HS.out, HZ.out⟩]))).pre HTL.out.1) H6.out (HW5.out.named oBuiltin (tk l)) HK.out)
     ·
      have hz1 : ((ns.length : Int) == 0) = false := by rw [beq_eq_false_iff_ne]; omega
      have HZ := kH (show ¬ ts.length = 0 from by have := HLW.out; omega)
      clear hz
      obtain ⟨e0, e1, e2, ek0, ek1, ek2⟩ := HT1.out.cells
      go_wp2_with fail
      refine ((CF.out _ _ 9 (by decide)) _ H4.out.st).mono ?_
      rintro e w5 ⟨rfl, m5⟩
      have HW4 := kH (HW4.out.onl m5.2 (by have := HK.out; omega))
      have HN := kH (HN.out.onl m5.2 HNZ.out)
      have HT1 := kH (HT1.out.onl m5.2 HBHT1.out)
      have H5 := kH (H4.out.trans m5)
      clear m5
      obtain ⟨f0, f1, f2, fk0, fk1, fk2⟩ := HT1.out.cells

      go_wp2_with fail
      refine (CM.out _ (tk l) _ _ _ _).mono ?_
      rintro e w6 ⟨rfl, hb6⟩
      have HW5 := kH (HW4.out.below hb6)
      have HN := kH (HN.out.below hb6)
      have HT1 := kH (HT1.out.below hb6)
      have H6 := kH (H5.out.below hb6)
      clear hb6
      unfold An.val
      obtain ⟨z0, z1, z2, z3, zk0, zk1, zk2, zk3⟩ := HN.out.cells
      go_wp2_with fail
      exact bodyPost_ret (v := An.val ⟨bs oBuiltin, bs (tk l).t, (tk l).a, q, ms.length, d⟩) (by simp [results, Tryz.results126, go_sem, An.val, z0, z1, z2, z3] <;> rfl) rfl (NdPost.put (n := ⟨bs oBuiltin, bs (tk l).t, (tk l).a, q, ms.length, d⟩) (by rw [HX.out]; exact (HR3.out.bnd (Res.fail _ HR3.out.ne (by unfold tkR; rw [HO.out]; simp only; rw [if_neg (fun e => HZ.out e.2)]))).pre HTL.out.1) H6.out (HW5.out.named oBuiltin (tk l)) HK.out)
    ·
     have hs2 : ((tk l).t == [115, 114, 97, 110, 100]) = false := by rw [beq_eq_false_iff_ne]; exact hs
     have HS := kH hs
     clear hs
     obtain ⟨e0, e1, e2, ek0, ek1, ek2⟩ := HT1.out.cells
     go_wp2_with fail
     refine ((CF.out _ _ 9 (by decide)) _ H4.out.st).mono ?_
     rintro e w5 ⟨rfl, m5⟩
     have HW4 := kH (HW4.out.onl m5.2 (by have := HK.out; omega))
     have HN := kH (HN.out.onl m5.2 HNZ.out)
     have HT1 := kH (HT1.out.onl m5.2 HBHT1.out)
     have H5 := kH (H4.out.trans m5)
     clear m5
     obtain ⟨f0, f1, f2, fk0, fk1, fk2⟩ := HT1.out.cells

     go_wp2_with fail
     refine (CM.out _ (tk l) _ _ _ _).mono ?_
     rintro e w6 ⟨rfl, hb6⟩
     have HW5 := kH (HW4.out.below hb6)
     have HN := kH (HN.out.below hb6)
     have HT1 := kH (HT1.out.below hb6)
     have H6 := kH (H5.out.below hb6)
     clear hb6
     unfold An.val
     obtain ⟨z0, z1, z2, z3, zk0, zk1, zk2, zk3⟩ := HN.out.cells
     go_wp2_with fail
     exact bodyPost_ret (v := An.val ⟨bs oBuiltin, bs (tk l).t, (tk l).a, q, ms.length, d⟩) (by simp [results, Tryz.results126, go_sem, An.val, z0, z1, z2, z3] <;> rfl) rfl (NdPost.put (n := ⟨bs oBuiltin, bs (tk l).t, (tk l).a, q, ms.length, d⟩) (by rw [HX.out]; exact (HR3.out.bnd (Res.fail _ HR3.out.ne (by unfold tkR; rw [HO.out]; simp only; rw [if_neg (fun e => HS.out e.1)]))).pre HTL.out.1) H6.out (HW5.out.named oBuiltin (tk l)) HK.out)
  ·
   have HX : Hid (builtinP (rcP reOk (50 - dp)) l = .ok (named oBuiltin (tk l) [], nx l)) := kH (by rw [builtin_eq, if_pos ⟨HB.out, hc⟩])
   rw [decide_eq_false hc] at CC
   clear hc
   go_wp2_with fail
   refine (CC.out _ H1.out.st).mono ?_
   rintro e w2 ⟨rfl, m2⟩
   have HN := kH (HN.out.onl m2.2 HNZ.out)
   have HT1 := kH (HT1.out.onl m2.2 HBHT1.out)
   have H2 := kH (H1.out.trans m2)
   clear m2
   obtain ⟨g0, g1, g2, gk0, gk1, gk2⟩ := HT1.out.cells
   go_wp2_with fail
   refine (CM.out _ (tk l) _ _ _ _).mono ?_
   rintro e w3 ⟨rfl, hb3⟩
   have HN := kH (HN.out.below hb3)
   have HT1 := kH (HT1.out.below hb3)
   have H3 := kH (H2.out.below hb3)
   clear hb3
   unfold An.val
   obtain ⟨z0, z1, z2, z3, zk0, zk1, zk2, zk3⟩ := HN.out.cells
   go_wp2_with fail
   exact bodyPost_ret (v := An.val ⟨bs oBuiltin, bs (tk l).t, (tk l).a, none, 0, 0⟩) (by simp [results, Tryz.results126, go_sem, An.val, z0, z1, z2, z3] <;> rfl) rfl (NdPost.put (n := ⟨bs oBuiltin, bs (tk l).t, (tk l).a, none, 0, 0⟩) (by rw [HX.out]; exact Res.ret' HTL.out.1 HTL.out.2.1) H3.out ((RwA.nil _ _).named oBuiltin (tk l)) HK.out)
 ·
  have hb2 : ((tk l).t == [108, 101, 110, 103, 116, 104]) = false := by rw [beq_eq_false_iff_ne]; exact hb
  have HX : Hid (builtinP (rcP reOk (50 - dp)) l = bnd (listP ((rcP reOk (50 - dp)).E false) (nx l)) (tkR (tk l))) := kH (by rw [builtin_eq, if_neg (fun e => hb e.1)])
  clear hb
  go_wp2_with fail
  have HLT1 := kH HT1.out.lt
  have HLT := kH HN.out.lt
  refine (CL.out _ H1.out.st).mono ?_
  rintro e w2 ⟨ts, ns, p, c, l3, er3, rfl, r2, m2, rw3, ln3⟩
  have HN := kH (HN.out.onl m2.2 HNZ.out)
  have HT1 := kH (HT1.out.onl m2.2 HBHT1.out)
  have HR2 := kH r2
  have HW3 := kH rw3
  have HS3 := kH m2.2.size
  have HNS : Hid (ns.length ≤ 6000) := kH (by have := HLN.out; have := HTL.out.1.length_le; omega)
  have H2 := kH (H1.out.trans m2)
  clear m2 r2 rw3 ln3
  obtain ⟨g20, g21, g22, g2k0, g2k1, g2k2⟩ := HT1.out.cells
  go_wp2_with fail
  refine (CK.out ts ns p c _ w2 HW3.out HNS.out HS3.out).mono ?_
  rintro e w3 ⟨us, ms, q, d, ok, rfl, rw4, hb4, ln4, htk⟩
  have HTK := kH htk
  have HW4 := kH (rw4.low (n1 := w.heap.size + 1) (by have := HLT.out; exact this))
  have HN := kH (show BlkA w3 w.heap.size An.zero from (hb4.block _ HLT.out).trans HN.out)
  have HT1 := kH (show BlkT w3 w1.heap.size (tk l) from (hb4.block _ HLT1.out).trans HT1.out)
  have H3 := kH (Mv.mid H2.out hb4 (by have := HLT.out; omega) HK.out)
  clear hb4 rw4 ln4 htk
  rcases HTK.out with ⟨rfl, hok⟩ | ⟨rfl, hno⟩
  ·
   have HO := kH hok
   clear hok HTK
   obtain ⟨e0, e1, e2, ek0, ek1, ek2⟩ := HT1.out.cells
   go_wp2_with fail
   refine (CM.out _ (tk l) _ _ _ _).mono ?_
   rintro e w4 ⟨rfl, hb4⟩
   have HW5 := kH (HW4.out.below hb4)
   have HN := kH (HN.out.below hb4)
   have HT1 := kH (HT1.out.below hb4)
   have H4 := kH (H3.out.below hb4)
   clear hb4
   unfold An.val

   obtain ⟨z0, z1, z2, z3, zk0, zk1, zk2, zk3⟩ := HN.out.cells
   go_wp2_with fail
   exact bodyPost_ret (v := An.val ⟨bs oBuiltin, bs (tk l).t, (tk l).a, q, ms.length, d⟩) (by simp [results, Tryz.results126, go_sem, An.val, z0, z1, z2, z3] <;> rfl) rfl (NdPost.put (n := ⟨bs oBuiltin, bs (tk l).t, (tk l).a, q, ms.length, d⟩) (by rw [HX.out]; exact (HR2.out.bnd (by unfold tkR; rw [HO.out]; exact Res.ret HR2.out.ne)).pre HTL.out.1) H4.out (HW5.out.named oBuiltin (tk l)) HK.out)
  ·
   have HO := kH hno
   have HLW := kH HW3.out.tr.len
   clear hno HTK
   by_cases hs : (tk l).t = bSrand
   ·
    have hs2 : ((tk l).t == [115, 114, 97, 110, 100]) = true := by rw [hs]; rfl
    have HS := kH hs
    clear hs
    by_cases hz : ns.length = 0
    ·
     have hz1 : ((ns.length : Int) == 0) = true := by rw [hz]; rfl
     have HZ := kH (show ts.length = 0 from by have := HLW.out; omega)
     clear hz
     obtain ⟨e0, e1, e2, ek0, ek1, ek2⟩ := HT1.out.cells
     go_wp2_with fail
     refine ((CF.out _ _ 10 (by decide)) _ H3.out.st).mono ?_
     rintro e w4 ⟨rfl, m4⟩
     have HW4 := kH (HW4.out.onl m4.2 (by have := HK.out; omega))
     have HN := kH (HN.out.onl m4.2 HNZ.out)
     have HT1 := kH (HT1.out.onl m4.2 HBHT1.out)
     have H4 := kH (H3.out.trans m4)
     clear m4
     obtain ⟨f0, f1, f2, fk0, fk1, fk2⟩ := HT1.out.cells

     go_wp2_with fail
     refine (CM.out _ (tk l) _ _ _ _).mono ?_
     rintro e w5 ⟨rfl, hb5⟩
     have HW5 := kH (HW4.out.below hb5)
     have HN := kH (HN.out.below hb5)
     have HT1 := kH (HT1.out.below hb5)
     have H5 := kH (H4.out.below hb5)
     clear hb5
     unfold An.val
     obtain ⟨z0, z1, z2, z3, zk0, zk1, zk2, zk3⟩ := HN.out.cells
     go_wp2_with fail
     exact bodyPost_ret (v := An.val ⟨bs oBuiltin, bs (tk l).t, (tk l).a, q, ms.length, d⟩) (by simp [results, Tryz.results126, go_sem, An.val, z0, z1, z2, z3] <;> rfl) rfl (NdPost.put (n := ⟨bs oBuiltin, bs (tk l).t, (tk l).a, q, ms.length, d⟩) (by rw [HX.out]; exact (HR2.out.bnd (Res.fail _ HR2.out.ne (by unfold tkR; rw [HO.out]; simp only; rw [if_pos ⟨HS.out, HZ.out⟩]))).pre HTL.out.1) H5.out (HW5.out.named oBuiltin (tk l)) HK.out)
    ·
     have hz1 : ((ns.length : Int) == 0) = false := by rw [beq_eq_false_iff_ne]; omega
     have HZ := kH (show ¬ ts.length = 0 from by have := HLW.out; omega)
     clear hz
     obtain ⟨e0, e1, e2, ek0, ek1, ek2⟩ := HT1.out.cells
     go_wp2_with fail
     refine ((CF.out _ _ 9 (by decide)) _ H3.out.st).mono ?_
     rintro e w4 ⟨rfl, m4⟩
     have HW4 := kH (HW4.out.onl m4.2 (by have := HK.out; omega))
     have HN := kH (HN.out.onl m4.2 HNZ.out)
     have HT1 := kH (HT1.out.onl m4.2 HBHT1.out)
     have H4 := kH (H3.out.trans m4)
     clear m4
     obtain ⟨f0, f1, f2, fk0, fk1, fk2⟩ := HT1.out.cells

     go_wp2_with fail
     refine (CM.out _ (tk l) _ _ _ _).mono ?_
     rintro e w5 ⟨rfl, hb5⟩
     have HW5 := kH (HW4.out.below hb5)
     have HN := kH (HN.out.below hb5)
     have HT1 := kH (HT1.out.below hb5)
     have H5 := kH (H4.out.below hb5)
     clear hb5
     unfold An.val
     obtain ⟨z0, z1, z2, z3, zk0, zk1, zk2, zk3⟩ := HN.out.cells
     go_wp2_with fail
     exact bodyPost_ret (v := An.val ⟨bs oBuiltin, bs (tk l).t, (tk l).a, q, ms.length, d⟩) (by simp [results, Tryz.results126, go_sem, An.val, z0, z1, z2, z3] <;> rfl) rfl (NdPost.put (n := ⟨bs oBuiltin, bs (tk l).t, (tk l).a, q, ms.length, d⟩) (by rw [HX.out]; exact (HR2.out.bnd (Res.fail _ HR2.out.ne (by unfold tkR; rw [HO.out]; simp only; rw [if_neg (fun e => HZ.out e.2)]))).pre HTL.out.1) H5.out (HW5.out.named oBuiltin (tk l)) HK.out)
   ·
    have hs2 : ((tk l).t == [115, 114, 97, 110, 100]) = false := by rw [beq_eq_false_iff_ne]; exact hs
    have HS := kH hs
    clear hs
    obtain ⟨e0, e1, e2, ek0, ek1, ek2⟩ := HT1.out.cells
    go_wp2_with fail
    refine ((CF.out _ _ 9 (by decide)) _ H3.out.st).mono ?_
    rintro e w4 ⟨rfl, m4⟩
    have HW4 := kH (HW4.out.onl m4.2 (by have := HK.out; omega))
    have HN := kH (HN.out.onl m4.2 HNZ.out)
    have HT1 := kH (HT1.out.onl m4.2 HBHT1.out)
    have H4 := kH (H3.out.trans m4)
    clear m4
    obtain ⟨f0, f1, f2, fk0, fk1, fk2⟩ := HT1.out.cells

    go_wp2_with fail
    refine (CM.out _ (tk l) _ _ _ _).mono ?_
    rintro e w5 ⟨rfl, hb5⟩
    have HW5 := kH (HW4.out.below hb5)
    have HN := kH (HN.out.below hb5)
    have HT1 := kH (HT1.out.below hb5)
    have H5 := kH (H4.out.below hb5)
    clear hb5
    unfold An.val
    obtain ⟨z0, z1, z2, z3, zk0, zk1, zk2, zk3⟩ := HN.out.cells
    go_wp2_with fail
    exact bodyPost_ret (v := An.val ⟨bs oBuiltin, bs (tk l).t, (tk l).a, q, ms.length, d⟩) (by simp [results, Tryz.results126, go_sem, An.val, z0, z1, z2, z3] <;> rfl) rfl (NdPost.put (n := ⟨bs oBuiltin, bs (tk l).t, (tk l).a, q, ms.length, d⟩) (by rw [HX.out]; exact (HR2.out.bnd (Res.fail _ HR2.out.ne (by unfold tkR; rw [HO.out]; simp only; rw [if_neg (fun e => HS.out e.1)]))).pre HTL.out.1) H5.out (HW5.out.named oBuiltin (tk l)) HK.out)
end Go.Proofs.YtmbfdkiejneheaaGreatDoor

namespace Go.Proofs.YtmbfdkiejneheaaGreatDoor
open Go.RowKit

def RwPost1 (K : Ps) (w : World) (l : List Tok) (X : TR (List PT)) (dp : Nat) (pr : Bool) (er : ErO) (e : Ending) (w' : World) : Prop :=
 ∃ ts n p c l2 er2, e = .returned (.slice p 1 c) ∧ Res X l er ts l2 er2 ∧ Mv K w l2 dp pr er2 w' ∧ RwA w' w.heap.size ts [n] (.slice p 1 c)
set_option maxHeartbeats 4000000 in
set_option maxRecDepth 100000 in
theorem psingle1_any {reOk : List UInt8 → Bool} {K : Ps} {m : Nat} (IE : OkE reOk K m 59 fun R pr => R.E pr) : ∀ dp pr l er W, dp ≤ 50 → l.length < m → Pst W K l dp pr er → Calls Tryz.prog 67 #[.pointer (some ⟨K.b, 0, none⟩)] W (RwPost1 K W l (singleP ((rcP reOk (50 - dp)).E pr) l) dp pr er) := by
 intro dp pr l er w hd hl h
 have CE := kH (IE dp pr l er w hd hl h)
 clear IE h hd hl
 go_enter Tryz.func67, Tryz.ntmps67
 go_wp2_with fail
 refine CE.out.mono ?_
 rintro e w1 ⟨t1, n1, l1, er1, rfl, r1, m1, tr1⟩
 have H1 := kH m1
 have HR1 := kH r1
 have HT1 := kH tr1
 clear m1 r1 tr1
 unfold An.val
 go_wp2_with fail
 go_ret
 exact ⟨[t1], n1, some ⟨w1.heap.size, 0, none⟩, 1, l1, er1, rfl, HR1.out.bnd (Res.ret HR1.out.ne), H1.out.alloc _, RwA.new1 HT1.out H1.out.2.size⟩
set_option maxHeartbeats 8000000 in
set_option maxRecDepth 100000 in
theorem pwithin1_any {K : Ps} {m : Nat} {f : FuncId} {G : List Tok → TR (List PT)} {dp : Nat} (hcf : ∀ xs w, (callFunc f xs).run Tryz.prog w = .ok (.enter f xs) w)
  {l : List Tok} (CG : ∀ l1 er W, l1 <:+ l → l1.length < m → Pst W K l1 dp false er → Calls Tryz.prog f #[.pointer (some ⟨K.b, 0, none⟩)] W (RwPost1 K W l1 (G l1) dp false er)) (o c : List UInt8) (pr : Bool) (er : ErO) (w : World) (hW : l.length < m ∨ (fx l = o ∧ o ≠ [] ∧ l.length ≤ m)) (h : Pst w K l dp pr er) :
  Calls Tryz.prog 55 #[.pointer (some ⟨K.b, 0, none⟩), .string ⟨o.toArray⟩, .func (.func f) #[.pointer (some ⟨K.b, 0, none⟩)] #[], .string ⟨c.toArray⟩] w (RwPost1 K w l (withinP o G c l) dp pr er) := by
 have CG := kH CG
 have CW := kH fun s l1 er1 w1 h1 => pwant_any K l1 dp false er1 s w1 h1
 have CL := kH fun l1 er1 => pnls_any K l1 dp false er1
 have HK : Hid (K.b < w.heap.size ∧ K.g < w.heap.size) := kH ⟨h.lt, h.glt⟩
 have HW := kH hW
 have HTL := kH h.tll
 obtain ⟨c0, c1, c2, c3, c4, c5, f1, f2, f3, f4, f5⟩ := h.rd.cells
 have H0 := kH ((Mv.refl h).print false)
 clear h hW
 go_enter Tryz.func55, Tryz.ntmps55
 go_wp2_with fail
 refine (CW.out o _ _ _ H0.out.st).mono ?_
 rintro e w1 ⟨l1, er1, rfl, r1, m1⟩
 have H1 := kH (H0.out.trans m1)
 have HR1 := kH r1
 have HL1 : Hid (l1.length < m ∧ Tl l1) := kH (by
  refine ⟨?_, m1.st.tll⟩
  rcases HW.out with h1 | ⟨h1, h2, h3⟩
  ·
   have := r1.suf.length_le; omega
  ·
   rcases r1.alt with ⟨h4, _⟩ | ⟨e, _, _, h4⟩
   ·
    unfold wantP at h4
    rw [if_pos h1] at h4
    injection h4 with h4
    injection h4 with _ h4
    have := HTL.out.nx.2.2.2 (fx_kind h1 h2)
    rw [h4] at this
    omega
   ·
    have := HTL.out.nx.2.2.2 (fx_kind h1 h2)
    have := HTL.out.nx.2.2.1.pos
    omega)
 clear m1 r1
 go_wp2_with fail
 refine (CL.out _ _ _ H1.out.st).mono ?_
 rintro e w2 ⟨rfl, m2⟩
 have H2 := kH (H1.out.trans m2)
 have HL2 : Hid ((nlsP l1).length < m ∧ nlsP l1 <:+ l1) := kH (by
  have h1 := HL1.out.2.nls.1
  have := h1.length_le
  have := HL1.out.1
  exact ⟨by omega, h1⟩)
 clear m2
 go_wp2_with fail
 refine (CG.out _ _ _ (HL2.out.2.trans HR1.out.suf) HL2.out.1 H2.out.st).mono ?_
 rintro e w3 ⟨ts, n, p, k, l3, er3, rfl, r3, m3, rw3⟩
 have H3 := kH (H2.out.trans m3)
 have HR3 := kH (r3.pre HL2.out.2)
 have HRW3 := kH (rw3.low (n1 := w.heap.size) (by have := H2.out.2.size; exact this))
 clear m3 r3 rw3
 go_wp2_with fail
 refine (CL.out _ _ _ H3.out.st).mono ?_
 rintro e w4 ⟨rfl, m4⟩
 have H4 := kH (H3.out.trans m4)
 have HRW4 := kH (HRW3.out.onl m4.2 HK.out.1)
 have HL4 := kH H3.out.st.tll.nls.1
 clear m4
 go_wp2_with fail
 refine (CW.out c _ _ _ H4.out.st).mono ?_
 rintro e w5 ⟨l5, er5, rfl, r5, m5⟩
 have H5 := kH (H4.out.trans m5)
 have HRW5 := kH (HRW4.out.onl m5.2 HK.out.1)
 have HR5 := kH (r5.pre HL4.out)
 clear m5 r5
 obtain ⟨c0, c1, c2, c3, c4, c5, f1, f2, f3, f4, f5⟩ := H5.out.st.rd.cells
 go_wp2_with fail
 go_ret
 refine ⟨ts, n, p, k, l5, er5, rfl, ?_, H5.out.print pr, (HRW5.out.onl ((Onl.refl K.b w5).setCell 3 _) HK.out.1)⟩
 exact HR1.out.bnd (HR3.out.bnd (HR5.out.bnd (Res.ret HR5.out.ne)))
end Go.Proofs.YtmbfdkiejneheaaGreatDoor
