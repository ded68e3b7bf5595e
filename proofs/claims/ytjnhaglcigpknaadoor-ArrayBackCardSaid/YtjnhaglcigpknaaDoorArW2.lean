/-
  CONTRACT of layer 8's at: an entry that there is, or a new one behind all others.
-/
import Derived.Test.YtjnhaglcigpknaaDoorArW1
import Derived.Carry
namespace Go.Proofs.YtjnhaglcigpknaaDoor
open Go.RowKit Go.Maps

section
variable {w w' : World} {b mn : Nat} {mm : Option Nat} {L : List En}
/-- An array into whose map one key more is laid, whose entry lies apart, not linked yet. -/
structure Raw (w : World) (b mn : Nat) (L : List En) (e : En) : Prop where
  blk : w.heap[b]? = some (.cells #[.map (some mn), ptr (hd L none), ptr (lst L none)] 43 (0, 0))
  lnk : Lnk w none L none
  ent : EnAt w e (lst L none) none
  map : ∃ D, w.ownsMap Tryd.prog 9 ptrE mn 2000 (dat D) ∧ Srt D ∧ D.length = L.length + 1 ∧ ∀ n, getD D n = fnd (L ++ [e]) n
  dis : Dis (L ++ [e])
  few : L.length + 1 ≤ 1000
theorem lst_snoc (A : List En) (x : En) (p : Option Nat) : lst (A ++ [x]) p = some x.g := by rw [lst_append]; rfl
theorem hd_snoc (A : List En) (x : En) : ∃ g, hd (A ++ [x]) none = some g ∧ ∀ q, hd (A ++ [x]) q = some g := by
  cases A with
  | nil => exact ⟨x.g, rfl, fun _ => rfl⟩
  | cons y A => exact ⟨y.g, rfl, fun _ => rfl⟩
theorem Raw.ne {e : En} (h : Raw w b mn L e) {x : En} (hx : x ∈ L ++ [e]) : x.g ≠ b ∧ x.g ≠ mn := by
  obtain ⟨D, hm, _⟩ := h.map
  rcases List.mem_append.1 hx with hx | hx
  · obtain ⟨_, p, q, h2⟩ := h.lnk.lt x hx
    exact ⟨cells_ne h2 h.blk (by decide), cells_ne_map h2 hm⟩
  · simp at hx
    subst hx
    exact ⟨cells_ne h.ent h.blk (by decide), cells_ne_map h.ent hm⟩
theorem Raw.bm {e : En} (h : Raw w b mn L e) : b ≠ mn := by
  obtain ⟨D, hm, _⟩ := h.map
  exact cells_ne_map h.blk hm
theorem Raw.first {e : En} (h : Raw w b mn [] e) : AV ((w.setCell ⟨b, 1, none⟩ (ptr (some e.g))).setCell ⟨b, 2, none⟩ (ptr (some e.g))) b (some mn) [e] := by
  have hk : ∀ k, k ≠ b → ((w.setCell ⟨b, 1, none⟩ (ptr (some e.g))).setCell ⟨b, 2, none⟩ (ptr (some e.g))).heap[k]? = w.heap[k]? := fun k hk => by
    rw [Below.heap_setCell _ _ _ k hk, Below.heap_setCell _ _ _ k hk]
  obtain ⟨D, hm, h1, h2, h3⟩ := h.map
  exact ⟨by simpa [hd, lst] using setCell_block (i := 2) (setCell_block (i := 1) h.blk (ptr (some e.g))) (ptr (some e.g)), ⟨(hk e.g (h.ne (by simp)).1).trans h.ent, trivial⟩, ⟨D, ownsMap_of_block hm (hk mn (Ne.symm h.bm)), h1, h2, h3⟩, by simp, by simp, by simp⟩
theorem Raw.last {A : List En} {x e : En} (h : Raw w b mn (A ++ [x]) e) : AV ((w.setCell ⟨x.g, 5, none⟩ (ptr (some e.g))).setCell ⟨b, 2, none⟩ (ptr (some e.g))) b (some mn) (A ++ [x] ++ [e]) := by
  obtain ⟨D, hm, h1, h2, h3⟩ := h.map
  have hxb := (h.ne (x := x) (by simp)).1
  have hxm := (h.ne (x := x) (by simp)).2
  have heb := (h.ne (x := e) (by simp)).1
  have hdis := h.dis
  have hmid : Dis (A ++ x :: [e]) := by simpa using hdis
  obtain ⟨hA, hE, _⟩ := hmid.mid
  have hex : e.g ≠ x.g := (hE e (by simp)).1
  have hk : ∀ k, k ≠ b → k ≠ x.g → ((w.setCell ⟨x.g, 5, none⟩ (ptr (some e.g))).setCell ⟨b, 2, none⟩ (ptr (some e.g))).heap[k]? = w.heap[k]? := fun k hk1 hk2 => by
    rw [Below.heap_setCell _ _ _ k hk1, Below.heap_setCell _ _ _ k hk2]
  have hl1 := h.lnk.setEnd (fun y hy => (hA y hy).1) (some e.g)
  have hl2 : Lnk ((w.setCell ⟨x.g, 5, none⟩ (ptr (some e.g))).setCell ⟨b, 2, none⟩ (ptr (some e.g))) none (A ++ [x]) (some e.g) := hl1.kept fun y hy => Below.heap_setCell _ _ _ y.g (h.ne (List.mem_append_left _ hy)).1
  have hent : EnAt ((w.setCell ⟨x.g, 5, none⟩ (ptr (some e.g))).setCell ⟨b, 2, none⟩ (ptr (some e.g))) e (lst (A ++ [x]) none) none := h.ent.kept (hk e.g heb hex)
  obtain ⟨g, hg1, hg2⟩ := hd_snoc A x
  refine ⟨?_, (Lnk_append _ _ _ _).2 ⟨hl2, hent, trivial⟩, ⟨D, ownsMap_of_block hm (hk mn (Ne.symm h.bm) (Ne.symm hxm)), h1, by rw [h2]; simp, h3⟩, hdis.1, hdis.2, by have := h.few; simp at this ⊢; omega⟩
  have hb1 : (w.setCell ⟨x.g, 5, none⟩ (ptr (some e.g))).heap[b]? = some (.cells #[.map (some mn), ptr (hd (A ++ [x]) none), ptr (lst (A ++ [x]) none)] 43 (0, 0)) := (Below.heap_setCell _ _ _ b (Ne.symm hxb)).trans h.blk
  have := setCell_block (i := 2) hb1 (ptr (some e.g))
  rw [hd_append, hg2, lst_snoc]
  rw [hg1] at this
  simpa using this
/-- The put into the map. -/
theorem AV.putM (h : AV w b (some mn) L) (s : ByteArray) (hs : s.size ≤ 1000000) (g : Nat) (hn : fnd L s.data.toList = none) (he : EnAt w ⟨s, zc, g⟩ (lst L none) none) (hg : ∀ x ∈ L, x.g ≠ g) (hl : L.length + 1 ≤ 1000) :
    ∃ w', (Instr.mapUpdate 40 (.map (some mn)) (.string s) (.pointer (some ⟨g, 0, none⟩))).run Tryd.prog w = .ok () w' ∧ Raw w' b mn L ⟨s, zc, g⟩ ∧ w.grownBy w' (some mn) := by
  obtain ⟨D, hm, h1, h2, h3⟩ := h.map
  obtain ⟨w', hr, ho, hgr⟩ := hm.update (string_keyed Tryd.underlying9) Tryd.underlying40 (by unfold maxLen; omega) (WideMaps.keyOf_string_mk Tryd.underlying9 (s := s) (by unfold maxLen; omega)) (ptrE_some g)
  rw [dat_put] at ho
  have hgn : getD D s.data.toList = none := by rw [h3]; exact hn
  have hpl := put_len g hgn
  have hnk : ∀ x ∈ L, x.nm ≠ s.data.toList := fnd_none.1 hn
  have hbl : w'.heap[b]? = w.heap[b]? := hgr.block b (block_lt h.blk) (fun e => by injection e with e; exact h.bmap e)
  refine ⟨w', hr, ⟨hbl.trans h.blk, h.lnk.kept fun x hx => hgr.block x.g (h.lnk.lt x hx).1 (fun e => by injection e with e; exact h.enmap hx e), he.kept (hgr.block g (block_lt he) (fun e => by injection e with e; exact cells_ne_map he hm e)), ⟨putD D s.data.toList g, ownsMap_tight ho (by omega), h1.put _ _, by omega, fun n => ?_⟩, Dis.snoc ⟨h.nd, h.kd⟩ hg hnk, hl⟩, hgr⟩
  rw [fnd_snoc hnk]
  by_cases hq : n = s.data.toList
  · rw [if_pos hq, hq]; exact getD_put_same D h1 _ _
  · rw [if_neg hq, getD_put_other D h1 g hq, h3]
/-- A map comes, where there was none. -/
theorem AV.mapNew (h : AV w b none L) : AV ((w.alloc (.map #[] 0)).setCell ⟨b, 0, none⟩ (.map (some w.heap.size))) b (some w.heap.size) L := by
  have hL : L = [] := h.map
  subst hL
  have hbl := block_lt h.blk
  have hb1 : (w.alloc (.map #[] 0)).heap[b]? = some (.cells #[.map none, ptr none, ptr none] 43 (0, 0)) := (((Below.refl w.heap.size w).alloc (Nat.le_refl _) (.map #[] 0)).block b hbl).trans h.blk
  refine ⟨by simpa [hd, lst] using setCell_block (i := 0) hb1 (.map (some w.heap.size)), trivial, ⟨[], ?_, by simp [Srt], rfl, fun n => rfl⟩, by simp, by simp, by simp⟩
  exact ownsMap_of_block ((World.ownsMap_made w _ _ _).mono (Nat.zero_le _)) (Below.heap_setCell _ _ _ w.heap.size (by show w.heap.size ≠ b; omega))
/-- The map is the one that was, or a new one. -/
def MmOk (w : World) (mm mm' : Option Nat) : Prop := mm' = mm ∨ ∃ m, mm' = some m ∧ w.heap.size ≤ m
def AtPost (w : World) (b : Nat) (mm : Option Nat) (L : List En) (s : ByteArray) (e : Ending) (w' : World) : Prop :=
  ∃ g mm', e = .returned (.pointer (some ⟨g, 0, none⟩)) ∧
    ((fnd L s.data.toList = some g ∧ mm' = mm ∧ AV w' b mm L ∧ Below w.heap.size w w') ∨
     (fnd L s.data.toList = none ∧ w.heap.size ≤ g ∧ AV w' b mm' (L ++ [⟨s, zc, g⟩]) ∧ Oth (Own b mm L) w w' ∧ MmOk w mm mm'))
theorem ptr_is (o : Option Nat) : ∃ x, ptr o = .pointer x := by cases o <;> exact ⟨_, rfl⟩
theorem atS_keep {b : Nat} {lv : Value} {w w1 w2 : World} (hb : b < w.heap.size) (h : w1.cell? ⟨b, 2, none⟩ = some lv ∧ Below w.heap.size w w1) (h2 : Below w1.heap.size w1 w2) : w2.cell? ⟨b, 2, none⟩ = some lv ∧ Below w.heap.size w w2 :=
  ⟨(h2.cell (p := ⟨b, 2, none⟩) (Nat.lt_of_lt_of_le hb h.2.size)).trans h.1, h.2.trans (h2.mono h.2.size)⟩
theorem atS_alloc {b : Nat} {lv : Value} {w w1 : World} (hb : b < w.heap.size) (h : w1.cell? ⟨b, 2, none⟩ = some lv ∧ Below w.heap.size w w1) (o : Obj) : (w1.alloc o).cell? ⟨b, 2, none⟩ = some lv ∧ Below w.heap.size w (w1.alloc o) := atS_keep hb h ((Below.refl _ _).alloc (Nat.le_refl _) _)
theorem atS_drew {b : Nat} {lv : Value} {w w1 : World} (h : w1.cell? ⟨b, 2, none⟩ = some lv ∧ Below w.heap.size w w1) : w1.drew.cell? ⟨b, 2, none⟩ = some lv ∧ Below w.heap.size w w1.drew := ⟨h.1, h.2.drew⟩
theorem run_mnil (W : World) : (binOp .eql 40 (.map none) (.map none)).run Tryd.prog W = .ok (.bool true) W := by kernel_rfl
theorem run_msome (m : Nat) (W : World) : (binOp .eql 40 (.map (some m)) (.map none)).run Tryd.prog W = .ok (.bool false) W := by kernel_rfl
set_option maxHeartbeats 4000000 in
set_option maxRecDepth 100000 in
theorem at_any (h : AV w b mm L) (s : ByteArray) (hs : s.size ≤ 1000000) (hl : L.length + 1 ≤ 1000) :
    Calls Tryd.prog 33 #[.pointer (some ⟨b, 0, none⟩), .string s] w (AtPost w b mm L s) := by
  have hbl := block_lt h.blk
  have hc0 : w.cell? ⟨b, 0, none⟩ = some (.map mm) := block_cell h.blk
  have hlk := h.look s hs
  cases hf : fnd L s.data.toList with
  | some g =>
    rw [hf, ptr_some] at hlk
    have HE : Hid (AtPost w b mm L s (.returned (.pointer (some ⟨g, 0, none⟩))) w) := Lib.hid ⟨g, mm, rfl, .inl ⟨hf, rfl, h, Below.refl _ _⟩⟩
    clear h hf
    go_enter Tryd.func33, Tryd.ntmps33
    go_wp2
    go_ret
    exact HE.out
  | none =>
    rw [hf, ptr_none] at hlk
    have hc2 : w.cell? ⟨b, 2, none⟩ = some (ptr (lst L none)) := block_cell h.blk
    have CL := Lib.hid fun W => clone_any s W (by omega)
    have hk0 := And.intro hc2 (Below.refl w.heap.size w)
    have H := Lib.hid h
    have HF := Lib.hid hf
    clear h hf
    obtain ⟨lx, hlv⟩ := ptr_is (lst L none)
    rw [hlv] at hc2 hk0
    have HLV := Lib.hid hlv
    clear hlv
    go_enter Tryd.func33, Tryd.ntmps33
    go_wp2_with fail
    go_region_held3 (fun w' => w'.cell? ⟨b, 2, none⟩ = some (.pointer lx) ∧ Below w.heap.size w w') (first | assumption | exact atS_drew (by assumption) | exact atS_alloc hbl (by assumption) _ | go_keep) (first
      | ((with_reducible refine (CL.out _).mono ?_); rintro e w8 ⟨rfl, hb8⟩; have k8 := atS_keep hbl (by assumption) hb8))
    have hba : Below w8.heap.size w8 (w8.alloc (.cells #[.string s, .int .i64 0, .int .i64 0, .string ⟨#[]⟩, .pointer lx, .pointer none] 58)) := (Below.refl _ _).alloc (Nat.le_refl _) _
    have hbw : Below w.heap.size w (w8.alloc (.cells #[.string s, .int .i64 0, .int .i64 0, .string ⟨#[]⟩, .pointer lx, .pointer none] 58)) := k8.2.trans (hba.mono k8.2.size)
    have HAV1 := Lib.hid (H.out.next hbw)
    have HEN1 : Hid (EnAt (w8.alloc (.cells #[.string s, .int .i64 0, .int .i64 0, .string ⟨#[]⟩, .pointer lx, .pointer none] 58)) ⟨s, zc, w8.heap.size⟩ (lst L none) none) := Lib.hid (by
      unfold EnAt
      rw [HLV.out]
      exact heap_new w8 _)
    have HG : Hid (∀ x ∈ L, x.g ≠ w8.heap.size) := Lib.hid fun x hx => by
      have h1 := (H.out.lnk.lt x hx).1
      have h2 := k8.2.size
      omega
    have HGW := Lib.hid k8.2.size
    have HO1 : Hid (Oth (Own b mm L) w (w8.alloc (.cells #[.string s, .int .i64 0, .int .i64 0, .string ⟨#[]⟩, .pointer lx, .pointer none] 58))) := Lib.hid (Oth.of_below hbw (Nat.le_refl _))
    have hx0 : (w8.alloc (.cells #[.string s, .int .i64 0, .int .i64 0, .string ⟨#[]⟩, .pointer lx, .pointer none] 58)).heap.size = w8.heap.size + 1 := by simp
    have hgs : w8.heap.size < (w8.alloc (.cells #[.string s, .int .i64 0, .int .i64 0, .string ⟨#[]⟩, .pointer lx, .pointer none] 58)).heap.size := by omega
    generalize w8.alloc (.cells #[.string s, .int .i64 0, .int .i64 0, .string ⟨#[]⟩, .pointer lx, .pointer none] 58) = W1 at *
    generalize w8.heap.size = g0 at *
    clear hba hb8 k8 hx0 hk0 hc2 hc0 hlk CL
    cases mm with
    | some mn =>
      have HAV := HAV1
      have HEN := HEN1
      have HO := HO1
      have HOWN : Hid (Own b (some mn) L mn ∨ w.heap.size ≤ mn) := Lib.hid (.inl (.inr (.inl rfl)))
      have HMM : Hid (MmOk w (some mn) (some mn)) := Lib.hid (.inl rfl)
      have c00 : W1.cell? ⟨b, 0, none⟩ = some (.map (some mn)) := block_cell HAV.out.blk
      have hq := fun W => run_msome mn W
      clear HAV1 HEN1 HO1 H hbw
      go_wp2_with fail
      have hdr : Below W1.heap.size W1 W1.drew := (Below.refl _ _).drew
      obtain ⟨w3, hr, hraw, hgr⟩ := (HAV.out.next hdr).putM s hs g0 HF.out (HEN.out.kept rfl) HG.out hl
      have c0 : W1.cell? ⟨b, 0, none⟩ = some (.map (some mn)) := block_cell HAV.out.blk
      have e0 : W1.cell? ⟨g0, 0, none⟩ = some (.string s) := block_cell HEN.out
      have hO3 : Oth (Own b (some mn) L) w w3 := (HO.out.next hdr).grown hgr (fun k hk => by injection hk with hk; subst hk; exact HOWN.out)
      have HO3 := Lib.hid hO3
      have HRAW := Lib.hid hraw
      have d1 : w3.cell? ⟨b, 1, none⟩ = some (ptr (hd L none)) := block_cell hraw.blk
      have d2 : w3.cell? ⟨b, 2, none⟩ = some (ptr (lst L none)) := block_cell hraw.blk
      have f1 : w3.frozen? ⟨b, 1, none⟩ = false := block_frozen hraw.blk
      have f2 : w3.frozen? ⟨b, 2, none⟩ = false := block_frozen hraw.blk
      clear hraw hO3 hgr hdr
      rcases List.eq_nil_or_concat L with hL | ⟨A, x, hL⟩
      · subst hL
        have HE : Hid (AtPost w b (some mn) [] s (.returned (.pointer (some ⟨g0, 0, none⟩))) ((w3.setCell ⟨b, 1, none⟩ (.pointer (some ⟨g0, 0, none⟩))).setCell ⟨b, 2, none⟩ (.pointer (some ⟨g0, 0, none⟩)))) := Lib.hid ⟨g0, some mn, rfl, .inr ⟨rfl, HGW.out, HRAW.out.first, (HO3.out.setCell (.inl (.inl rfl)) _).setCell (.inl (.inl rfl)) _, HMM.out⟩⟩
        have hlx : lx = none := by have := HLV.out; injection this with this; exact this.symm
        rw [show ptr (hd ([] : List En) none) = .pointer none from rfl] at d1
        rw [show ptr (lst ([] : List En) none) = .pointer none from rfl] at d2
        subst hlx
        clear HO3 HRAW HAV HEN
        go_region
        go_wp2_with fail
        go_ret
        exact HE.out
      · rw [List.concat_eq_append] at hL
        subst hL
        have HE : Hid (AtPost w b (some mn) (A ++ [x]) s (.returned (.pointer (some ⟨g0, 0, none⟩))) ((w3.setCell ⟨x.g, 5, none⟩ (.pointer (some ⟨g0, 0, none⟩))).setCell ⟨b, 2, none⟩ (.pointer (some ⟨g0, 0, none⟩)))) := Lib.hid ⟨g0, some mn, rfl, .inr ⟨HF.out, HGW.out, HRAW.out.last, (HO3.out.setCell (.inl (.inr (.inr ⟨x, by simp, rfl⟩))) _).setCell (.inl (.inl rfl)) _, HMM.out⟩⟩
        have hxl := (Lnk_append A [x] none none).1 HRAW.out.lnk
        have k5 : w3.cell? ⟨x.g, 5, none⟩ = some (.pointer none) := block_cell hxl.2.1
        have k6 : w3.frozen? ⟨x.g, 5, none⟩ = false := block_frozen hxl.2.1
        have hne := (HRAW.out.ne (x := x) (by simp)).1
        rw [lst_snoc, ptr_some] at d2
        obtain ⟨hx0, hxq⟩ := ptr_is (hd (A ++ [x]) none)
        rw [hxq] at d1
        clear hxl HO3 HRAW HAV HEN
        go_region
        go_wp2_with fail
        go_ret
        exact HE.out
    | none =>
      have c00 : W1.cell? ⟨b, 0, none⟩ = some (.map none) := block_cell HAV1.out.blk
      have c0f : W1.frozen? ⟨b, 0, none⟩ = false := block_frozen HAV1.out.blk
      have hbs := hbw.size
      have hbW : b < W1.heap.size := block_lt HAV1.out.blk
      have hmb : Below W1.heap.size W1 (W1.alloc (.map #[] 0)) := (Below.refl _ _).alloc (Nat.le_refl _) _
      have HAV : Hid (AV ((W1.alloc (.map #[] 0)).setCell ⟨b, 0, none⟩ (.map (some W1.heap.size))) b (some W1.heap.size) L) := Lib.hid HAV1.out.mapNew
      have hgb : g0 ≠ b := cells_ne HEN1.out HAV1.out.blk (by decide)
      have HEN : Hid (EnAt ((W1.alloc (.map #[] 0)).setCell ⟨b, 0, none⟩ (.map (some W1.heap.size))) ⟨s, zc, g0⟩ (lst L none) none) := Lib.hid ((HEN1.out.kept (hmb.block g0 hgs)).kept (Below.heap_setCell _ _ _ g0 hgb))
      have HO : Hid (Oth (Own b none L) w ((W1.alloc (.map #[] 0)).setCell ⟨b, 0, none⟩ (.map (some W1.heap.size)))) := Lib.hid ((HO1.out.next hmb).setCell (.inl (.inl rfl)) _)
      have HOWN : Hid (Own b none L W1.heap.size ∨ w.heap.size ≤ W1.heap.size) := Lib.hid (.inr hbs)
      have HMM : Hid (MmOk w none (some W1.heap.size)) := Lib.hid (.inr ⟨_, rfl, hbs⟩)
      have heq := World.setCell_alloc_past (w := W1) (.map #[] 0) b 0 (.map (some W1.heap.size)) hbW
      rw [heq] at HAV HEN HO
      clear heq
      have hq := fun W => run_mnil W
      have hmm := fun W => @run_makeMap Tryd.prog 40 W
      clear HAV1 HEN1 HO1 H hbw hmb
      go_wp2_with fail
      clear hmm
      clear c00 c0f hbW hgs
      generalize (W1.setCell ⟨b, 0, none⟩ (.map (some W1.heap.size))).alloc (.map #[] 0) = W2 at *
      generalize W1.heap.size = mn at *
      have hdr : Below W2.heap.size W2 W2.drew := (Below.refl _ _).drew
      obtain ⟨w3, hr, hraw, hgr⟩ := (HAV.out.next hdr).putM s hs g0 HF.out (HEN.out.kept rfl) HG.out hl
      have c0 : W2.cell? ⟨b, 0, none⟩ = some (.map (some mn)) := block_cell HAV.out.blk
      have e0 : W2.cell? ⟨g0, 0, none⟩ = some (.string s) := block_cell HEN.out
      have hO3 : Oth (Own b none L) w w3 := (HO.out.next hdr).grown hgr (fun k hk => by injection hk with hk; subst hk; exact HOWN.out)
      have HO3 := Lib.hid hO3
      have HRAW := Lib.hid hraw
      have d1 : w3.cell? ⟨b, 1, none⟩ = some (ptr (hd L none)) := block_cell hraw.blk
      have d2 : w3.cell? ⟨b, 2, none⟩ = some (ptr (lst L none)) := block_cell hraw.blk
      have f1 : w3.frozen? ⟨b, 1, none⟩ = false := block_frozen hraw.blk
      have f2 : w3.frozen? ⟨b, 2, none⟩ = false := block_frozen hraw.blk
      clear hraw hO3 hgr hdr
      rcases List.eq_nil_or_concat L with hL | ⟨A, x, hL⟩
      · subst hL
        have HE : Hid (AtPost w b none [] s (.returned (.pointer (some ⟨g0, 0, none⟩))) ((w3.setCell ⟨b, 1, none⟩ (.pointer (some ⟨g0, 0, none⟩))).setCell ⟨b, 2, none⟩ (.pointer (some ⟨g0, 0, none⟩)))) := Lib.hid ⟨g0, some mn, rfl, .inr ⟨rfl, HGW.out, HRAW.out.first, (HO3.out.setCell (.inl (.inl rfl)) _).setCell (.inl (.inl rfl)) _, HMM.out⟩⟩
        have hlx : lx = none := by have := HLV.out; injection this with this; exact this.symm
        rw [show ptr (hd ([] : List En) none) = .pointer none from rfl] at d1
        rw [show ptr (lst ([] : List En) none) = .pointer none from rfl] at d2
        subst hlx
        clear HO3 HRAW HAV HEN
        go_region
        go_wp2_with fail
        go_ret
        exact HE.out
      · rw [List.concat_eq_append] at hL
        subst hL
        have HE : Hid (AtPost w b none (A ++ [x]) s (.returned (.pointer (some ⟨g0, 0, none⟩))) ((w3.setCell ⟨x.g, 5, none⟩ (.pointer (some ⟨g0, 0, none⟩))).setCell ⟨b, 2, none⟩ (.pointer (some ⟨g0, 0, none⟩)))) := Lib.hid ⟨g0, some mn, rfl, .inr ⟨HF.out, HGW.out, HRAW.out.last, (HO3.out.setCell (.inl (.inr (.inr ⟨x, by simp, rfl⟩))) _).setCell (.inl (.inl rfl)) _, HMM.out⟩⟩
        have hxl := (Lnk_append A [x] none none).1 HRAW.out.lnk
        have k5 : w3.cell? ⟨x.g, 5, none⟩ = some (.pointer none) := block_cell hxl.2.1
        have k6 : w3.frozen? ⟨x.g, 5, none⟩ = false := block_frozen hxl.2.1
        have hne := (HRAW.out.ne (x := x) (by simp)).1
        rw [lst_snoc, ptr_some] at d2
        obtain ⟨hx0, hxq⟩ := ptr_is (hd (A ++ [x]) none)
        rw [hxq] at d1
        clear hxl HO3 HRAW HAV HEN
        go_region
        go_wp2_with fail
        go_ret
        exact HE.out
end
end Go.Proofs.YtjnhaglcigpknaaDoor
