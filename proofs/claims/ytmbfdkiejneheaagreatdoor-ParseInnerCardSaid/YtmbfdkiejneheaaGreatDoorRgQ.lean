/-
 CONTRACTS of layer 9's pattern, group: parts, a pattern in brackets.
-/
import Derived.Test.YtmbfdkiejneheaaGreatDoorLxM
import Derived.Test.YtmbfdkiejneheaaGreatDoorRgP
namespace Go.Proofs.YtmbfdkiejneheaaGreatDoor
open Go.RowKit

/-- Where the loop of a pattern stands: the parts so far; more is to come, or an error is told. -/
structure PatSt (s : ByteArray) (b op n0 : Nat) (G : List UInt8 → PR RT) (X : PR (List RT)) (gk : Nat) (v : Value) (nds : List Nd) (w0 w : World) : Prop where
 own : w.ownsRow n0 100 6 v nds.length (ndRow nds)
 len : nds.length + gk ≤ s.size + 2
 res : BlkN w w0.heap.size Nd.zero
 onl : Onl b w0 w
 st : (∃ (f : Nat) (l : List UInt8) (ts : List RT), l <:+ s.data.toList ∧ l.length < f ∧ l.length ≤ gk ∧ patLoop withW notW orW G f l ts = X ∧ Rg w b s (s.size - l.length) op 0 0 ∧ TreesN w (Free n0 v) ts nds) ∨
  (∃ bd er, X = .error (bd, er) ∧ (er = 9 ∨ er = 14) ∧ bd ≤ s.size ∧ Rg w b s s.size op (s.size - bd) er)
def patX (G : List UInt8 → PR RT) (l : List UInt8) : PR (List RT) := match partR withW notW orW G l with
 | .error x => .error x
 | .ok (t, r) => patLoop withW notW orW G (r.length + 1) r [t]
theorem patR_eq (G : List UInt8 → PR RT) (l : List UInt8) : patR withW notW orW G l = partF 3 (patX G l) := by
 unfold patR patX partF
 cases partR withW notW orW G l with
 | error x => rfl
 | ok x =>
  obtain ⟨t, r⟩ := x
  simp only
  cases patLoop withW notW orW G (r.length + 1) r [t] with
  | error x => rfl
  | ok x => obtain ⟨t2, r2⟩ := x; rfl
theorem rg_partLoop_len {G : List UInt8 → PR RT} (hG : ∀ l t r, G l = .ok (t, r) → r.length ≤ l.length) : ∀ (f : Nat) (l : List UInt8) (ts us : List RT) (r : List UInt8), partLoop withW notW orW G f l ts = .ok (us, r) → r.length ≤ l.length
 | 0, l, ts, us, r, h => by cases h
 | f + 1, l, ts, us, r, h => by
  unfold partLoop at h
  rcases l with _ | ⟨c, l⟩
  ·
   cases h; simp
  ·
   simp only at h
   split at h
   ·
    cases h; simp
   ·
    split at h
    ·
     split at h
     ·
      cases h
     ·
      have := rg_partLoop_len hG f _ _ _ _ h
      simp only [List.length_cons]; omega
    ·
     split at h
     ·
      cases h
     ·
      rename_i t2 r2 hx
      have h1 := rg_thingR_len hx hG
      have h2 := rg_partLoop_len hG f _ _ _ _ h
      simp only [List.length_cons]; omega
theorem rg_partR_len {G : List UInt8 → PR RT} (hG : ∀ l t r, G l = .ok (t, r) → r.length ≤ l.length) {l r : List UInt8} {t : RT} (h : partR withW notW orW G l = .ok (t, r)) : r.length ≤ l.length := by
 rw [partR_eq] at h
 unfold partF at h
 split at h
 ·
  cases h
 ·
  rename_i ts r2 hx
  cases h
  exact rg_partLoop_len hG _ _ _ _ _ hx
theorem rg_patLoop_len {G : List UInt8 → PR RT} (hG : ∀ l t r, G l = .ok (t, r) → r.length ≤ l.length) : ∀ (f : Nat) (l : List UInt8) (ts us : List RT) (r : List UInt8), patLoop withW notW orW G f l ts = .ok (us, r) → r.length ≤ l.length
 | 0, l, ts, us, r, h => by cases h
 | f + 1, l, ts, us, r, h => by
  unfold patLoop at h
  rcases l with _ | ⟨c, l⟩
  ·
   cases h; simp
  ·
   simp only at h
   split at h
   ·
    split at h
    ·
     cases h
    ·
     rename_i t2 r2 hx
     have h1 := rg_partR_len hG hx
     have h2 := rg_patLoop_len hG f _ _ _ _ h
     simp only [List.length_cons]; omega
   ·
    cases h; simp
theorem rg_patR_len {G : List UInt8 → PR RT} (hG : ∀ l t r, G l = .ok (t, r) → r.length ≤ l.length) {l r : List UInt8} {t : RT} (h : patR withW notW orW G l = .ok (t, r)) : r.length ≤ l.length := by
 rw [patR_eq] at h
 unfold partF patX at h
 split at h
 ·
  cases h
 ·
  rename_i ts r2 hx
  cases h
  split at hx
  ·
   cases hx
  ·
   rename_i t3 r3 hy
   have h1 := rg_partR_len hG hy
   have h2 := rg_patLoop_len hG _ _ _ _ _ hx
   omega
theorem rg_grpR_len : ∀ (d : Nat) (l : List UInt8) (t : RT) (r : List UInt8), grpR withW notW orW d l = .ok (t, r) → r.length ≤ l.length
 | 0, l, t, r, h => by cases h
 | d + 1, l, t, r, h => by
  unfold grpR at h
  split at h
  ·
   cases h
  ·
   rename_i t2 r2 hx
   have h1 := rg_patR_len (rg_grpR_len d) hx
   split at h
   ·
    cases h
   ·
    split at h
    ·
     cases h
     simp only [List.length_cons] at h1; omega
    ·
     cases h
set_option maxHeartbeats 8000000 in
set_option maxRecDepth 100000 in
theorem rpat_any (b : Nat) (s : ByteArray) (op : Nat) (G : List UInt8 → PR RT) (l : List UInt8) (w : World) (h : Rg w b s (s.size - l.length) op 0 0) (hl : l <:+ s.data.toList) (hs : s.size ≤ 10000) (hG : GrpOk b s op G) (hGL : ∀ l t r, G l = .ok (t, r) → r.length ≤ l.length) :
  Calls Tryz.prog 130 #[.pointer (some ⟨b, 0, none⟩)] w (RdP (VN w.heap.size) GN b s op (patR withW notW orW G l) w) := by
 have HB : Hid (b ≠ w.heap.size) := kH (by have := h.lt; omega)
 have HB2 : Hid (b < w.heap.size) := kH h.lt
 have GA := kH fun p c nds W h1 h2 => rgather_any 3 p c nds W h1 h2
 have PA := kH fun W (l2 : List UInt8) (H : Rg W b s (s.size - l2.length) op 0 0) (hl2 : l2 <:+ s.data.toList) => rpart_any b s op G l2 W H hl2 hs hG hGL
 have TE := kH fun W bad er (c : Int) H => rtake_end b s op bad er c W H
 have HGL := kH hGL
 obtain ⟨X, hX⟩ : ∃ X, patX G l = X := ⟨_, rfl⟩
 rw [patR_eq, hX]
 have HLL := kH (rg_len hl)
 have HR0 := kH h
 have HL := kH hl
 have HN0 := kH (BlkN.new w)
 have HO0 := kH ((Onl.refl b w).alloc (.cells #[.int .i64 0, .int .u64 0, .int .u64 0, .int .u64 0, .int .u64 0, .slice none 0 0] 100))
 have HR1 := kH (h.alloc (.cells #[.int .i64 0, .int .u64 0, .int .u64 0, .int .u64 0, .int .u64 0, .slice none 0 0] 100))
 have HSZ : Hid ((w.alloc (.cells #[.int .i64 0, .int .u64 0, .int .u64 0, .int .u64 0, .int .u64 0, .slice none 0 0] 100)).heap.size = w.heap.size + 1) := kH (by simp)
 obtain ⟨i0, hi, hz0, hz1, hz2⟩ := info_parts Tryz.infoNode
 have FIRST : Hid (match partR withW notW orW G l with
   | .error (bd, er) => X = .error (bd, er)
   | .ok (t, r) => patLoop withW notW orW G (r.length + 1) r [t] = X ∧ r.length ≤ l.length) := kH (by
  rw [← hX]; unfold patX
  cases hx : partR withW notW orW G l with
  | error x => rfl
  | ok x => exact ⟨rfl, rg_partR_len hGL hx⟩)
 have PA0 := kH (PA.out (w.alloc (.cells #[.int .i64 0, .int .u64 0, .int .u64 0, .int .u64 0, .int .u64 0, .slice none 0 0] 100)) l (h.alloc _) hl)
 clear h hl hX hG hGL
 go_enter Tryz.func130, Tryz.ntmps130
 go_upto_region 1 with fail
 generalize w.alloc (.cells #[.int .i64 0, .int .u64 0, .int .u64 0, .int .u64 0, .int .u64 0, .slice none 0 0] 100) = wa at *
 go_cut [3] (fun v3 wx => ∃ (p : Option Addr) (c : Nat) (nds : List Nd), v3 = .slice p nds.length c ∧ Hid (PatSt s b op (w.heap.size + 1) G X (s.size + 1) (.slice p nds.length c) nds w wx))
 case first =>
  cases hx : partR withW notW orW G l with
  | error x =>
   obtain ⟨bd, er⟩ := x
   rw [hx] at FIRST PA0
   clear hx PA
   go_wp2_with fail
   refine PA0.out.mono ?_
   rintro e w2 ⟨her, hbd, v, rfl, ⟨nd, rfl⟩, hr2, o2⟩
   have HE := kH (And.intro her hbd)
   have HR2 := kH hr2
   have HO2 := kH o2
   clear her hbd hr2 o2
   unfold Nd.val
   go_wp2_with fail
   go_meet
   refine ⟨some ⟨w2.heap.size, 0, none⟩, 1, [nd], rfl, kH ⟨?_, by simp; omega, ?_, ?_, .inr ⟨bd, er, FIRST.out, HE.out.1, HE.out.2, HR2.out.alloc _⟩⟩⟩
   ·
    have h3 := World.ownsRow_lit (base := w.heap.size + 1) (e := 100) (size := 6) w2 #[.int .i64 nd.op, .int .u64 nd.set.a, .int .u64 nd.set.b, .int .u64 nd.set.c, .int .u64 nd.set.d, .slice nd.kp nd.kn nd.kc] 1 (by have := HO2.out.size; have := HSZ.out; omega) (by decide) rfl
    exact h3
   ·
    exact (HN0.out.onl HO2.out (fun e => HB.out e.symm)).alloc _
   ·
    exact (HO0.out.trans HO2.out).alloc _
  | ok x =>
   obtain ⟨t, r⟩ := x
   rw [hx] at FIRST PA0
   clear hx PA
   go_wp2_with fail
   refine PA0.out.mono ?_
   rintro e w2 ⟨hs2, v, rfl, ⟨nd, rfl, ht⟩, hr2, o2⟩
   have HE := kH (And.intro hs2 ht)
   have HR2 := kH hr2
   have HO2 := kH o2
   clear hs2 ht hr2 o2
   unfold Nd.val
   go_wp2_with fail
   go_meet
   refine ⟨some ⟨w2.heap.size, 0, none⟩, 1, [nd], rfl, kH ⟨?_, by simp; omega, ?_, ?_, .inl ⟨r.length + 1, r, [t], HE.out.1, by omega, by have := rg_len HE.out.1; omega, FIRST.out.1, HR2.out.alloc _, ?_⟩⟩⟩
   ·
    have h3 := World.ownsRow_lit (base := w.heap.size + 1) (e := 100) (size := 6) w2 #[.int .i64 nd.op, .int .u64 nd.set.a, .int .u64 nd.set.b, .int .u64 nd.set.c, .int .u64 nd.set.d, .slice nd.kp nd.kn nd.kc] 1 (by have := HO2.out.size; have := HSZ.out; omega) (by decide) rfl
    exact h3
   ·
    exact (HN0.out.onl HO2.out (fun e => HB.out e.symm)).alloc _
   ·
    exact (HO0.out.trans HO2.out).alloc _
   ·
    have h4 := HE.out.2.kept (w' := w2.alloc (.cells #[.int .i64 nd.op, .int .u64 nd.set.a, .int .u64 nd.set.b, .int .u64 nd.set.c, .int .u64 nd.set.d, .slice nd.kp nd.kn nd.kc] 100)) (B' := Free (w.heap.size + 1) (.slice (some ⟨w2.heap.size, 0, none⟩) 1 1)) (fun k _ hk => Below.heap_alloc _ _ k hk) (fun k hk hk2 => ⟨by have := HSZ.out; omega, fun e => by
     have : w2.heap.size = k := by simpa [Value.ownBlock] using e
     omega⟩)
    unfold TreesN
    exact ⟨nd, [], rfl, h4, by unfold TreesN; rfl⟩
 case rest =>
  obtain ⟨p, c, nds, rfl, H0⟩ := hcut
  clear PA0 FIRST HR0 HN0 HO0 HR1 HSZ
  go_wp2_with fail
  go_loopg [3] (s.size + 1) (fun gk v3 wr => ∃ (p : Option Addr) (c : Nat) (nds : List Nd), v3 = .slice p nds.length c ∧ Hid (PatSt s b op (w.heap.size + 1) G X gk (.slice p nds.length c) nds w wr))
  case atStart => exact ⟨p, c, nds, rfl, H0⟩
  case round =>
   clear H0 p c nds
   obtain ⟨p, c, nds, rfl, HS⟩ := hrel
   rcases HS.out.st with ⟨f, l2, ts, hl2, hf, hgk, hXl, hR, hts⟩ | ⟨bd, er, hXe, her, hbd, hR⟩
   ·
    obtain ⟨f', rfl⟩ : ∃ f', f = f' + 1 := ⟨f - 1, by omega⟩
    rcases l2 with _ | ⟨x, r⟩
    ·
     have HXE : Hid (X = .ok (ts, [])) := kH (by rw [← hXl]; rfl)
     have HSF : Hid (([] : List UInt8) <:+ s.data.toList ∧ s.size - ([] : List UInt8).length = s.size) := kH ⟨List.nil_suffix, rfl⟩
     have HR : Hid (Rg wr b s s.size op 0 0) := kH hR
     have HTW := kH hts
     clear hl2 hf hgk hXl hR hts
     go_wp2_with fail
     refine (TE.out _ _ _ 124 HR.out).mono ?_
     rintro e w7 ⟨rfl, m7, rfl⟩
     have hts := HTW.out
     have HOWN : Hid ((wr.drewN m7).ownsRow 0 100 6 (.slice p nds.length c) nds.length (ndRow nds)) := kH (rg_own_less HS.out.own (Nat.zero_le _))
     have HRES : Hid (BlkN (wr.drewN m7) w.heap.size Nd.zero) := kH HS.out.res
     have HONL : Hid (Onl b w (wr.drewN m7)) := kH HS.out.onl.drewN
     have HLN : Hid (nds.length ≤ 100000) := kH (by have := HS.out.len; omega)
     have HOB : Hid (∀ g, (Value.slice p nds.length c).ownBlock = some g → w.heap.size + 1 ≤ g) := kH (fun g hg => (rg_own_base HS.out.own g hg).1)
     have HTS : Hid (TreesN (wr.drewN m7) (fun k => w.heap.size + 1 ≤ k) ts nds) := kH (TreesN.kept (w := wr) (w' := (wr.drewN m7)) (B := Free (w.heap.size + 1) (.slice p nds.length c)) (B' := fun k => w.heap.size + 1 ≤ k) (fun _ _ _ => rfl) (fun _ h _ => h.1) ts nds hts)
     have HRG : Hid (Rg (wr.drewN m7) b s s.size op 0 0) := kH HR.out
     go_wp2_with fail
     refine (GA.out p c nds _ HOWN.out HLN.out).mono ?_
     rintro e w9 ⟨rfl, hb9⟩
     have HTR := kH (gather_tree (k := 3) HOWN.out HOB.out HTS.out)
     have HTR := kH (HTR.out.kept (w' := w9) (B' := fun k => w.heap.size + 1 ≤ k) (fun k _ hk => hb9.block k hk) (fun k hk _ => hk))
     generalize gatherN ((3 : Nat) : Int) p nds.length c nds = nd at *
     have HR9 := kH (HRG.out.below hb9)
     have HO9 := kH (HONL.out.trans (Onl.of_below hb9 (Nat.le_refl _)))
     have HN9 := kH (HRES.out.below hb9)
     clear hb9
     unfold Nd.val
     obtain ⟨d0, d1, d2, d3, d4, d5, k0, k1, k2, k3, k4, k5⟩ := HN9.out.cells
     go_wp2_with fail
     try rw [Exit.noGoto_ret]
     exact bodyPost_ret (v := nd.val) (by simp [results, Tryz.results130, go_sem, Nd.val, d0, d1, d2, d3, d4, d5]) rfl (by
      have hR := HR9.out.put6 (fun e => HB.out e.symm) nd
      have hO := HO9.out.put6 (Nat.le_refl _) nd
      rw [HXE.out]
      exact ⟨HSF.out.1, _, rfl, VN.stored HTR.out (Nat.lt_succ_self _), by rw [HSF.out.2]; exact hR, hO⟩)
    ·
     obtain ⟨q, hq, hqc, e3, e4, hr, hlen⟩ := rg_cons hl2
     rw [List.length_cons, e3] at hR
     have HR : Hid (Rg wr b s q op 0 0) := kH hR
     have HTW := kH hts
     have H2 := kH (And.intro hr e4)
     have HSX : Hid ((x :: r) <:+ s.data.toList ∧ s.size - (x :: r).length = q) := kH ⟨hl2, e3⟩
     have HFG : Hid (r.length + 1 ≤ gk ∧ r.length < f') := kH ⟨hgk, by simp only [List.length_cons] at hf; omega⟩
     by_cases hx : x = 124
     ·
      have TK := kH fun W H => rtake_yes b s q op 0 0 124 W H hq (by rw [hqc]; exact hx) (by omega)
      rw [show (((124 : UInt8).toNat : Nat) : Int) = 124 from rfl] at TK
      have hstep : patLoop withW notW orW G (f' + 1) (x :: r) ts = match partR withW notW orW G r with
        | .error y => .error y
        | .ok (t, r2) => patLoop withW notW orW G f' r2 (ts ++ [t]) := by
       conv => lhs; unfold patLoop
       simp only
       rw [if_pos hx]
       cases partR withW notW orW G r with
       | error y => rfl
       | ok y => rfl
      rw [hstep] at hXl
      have PA2 := kH fun W (H : Rg W b s (q + 1) op 0 0) => PA.out W r (by rw [H2.out.2]; exact H) H2.out.1
      cases hth : partR withW notW orW G r with
      | error y =>
       obtain ⟨bd, er⟩ := y
       rw [hth] at hXl PA2
       have HXE := kH hXl.symm
       clear hl2 hf hgk hXl hR hts e3 e4 hr hlen hstep hth hx
       go_wp2_with fail
       refine (TK.out _ HR.out).mono ?_
       rintro e w7 ⟨rfl, hr7, o7⟩
       have hk7 : ∀ g, g < wr.heap.size → g ≠ b → w7.heap[g]? = wr.heap[g]? := fun g h1 h2 => o7.block g h1 h2
       have HOWN6 : Hid (w7.ownsRow (w.heap.size + 1) 100 6 (.slice p nds.length c) nds.length (ndRow nds)) := kH (rg_own_kept HS.out.own (fun g hg => hk7 g (rg_own_base HS.out.own g hg).2 (by have := (rg_own_base HS.out.own g hg).1; have := HB2.out; omega)))
       have HRES6 : Hid (BlkN w7 w.heap.size Nd.zero) := kH (HS.out.res.onl o7 (fun e => HB.out e.symm))
       have HONL6 : Hid (Onl b w w7) := kH (HS.out.onl.trans o7)
       have HTW6 : Hid (TreesN w7 (Free (w.heap.size + 1) (.slice p nds.length c)) ts nds) := kH (TreesN.kept (w := wr) (w' := w7) (fun k hk hl => hk7 k hl (by have := hk.1; have := HB2.out; omega)) (fun _ h _ => h) _ _ HTW.out)
       have HSL := kH HS.out.len
       have hnl : nds.length ≤ 20000 := by have := HS.out.len; omega
       have HR7 := kH hr7
       clear HS hk7 hr7 o7
       go_wp2_with fail
       refine (PA2.out w7 HR7.out).mono ?_
       rintro e w8 ⟨her, hbd, v, rfl, ⟨nd, rfl⟩, hr8, o8⟩
       have HE := kH (And.intro her hbd)
       have HR8 := kH hr8
       have HO8 := kH o8
       have HOWN8 : Hid (w8.ownsRow (w.heap.size + 1) 100 6 (.slice p nds.length c) nds.length (ndRow nds)) := kH (rg_own_kept HOWN6.out (fun g hg => o8.block g (rg_own_base HOWN6.out g hg).2 (by have := (rg_own_base HOWN6.out g hg).1; have := HB2.out; omega)))
       have hw8 : w.heap.size + 1 ≤ w8.heap.size := by have := HRES6.out.lt; have := o8.size; omega
       clear hr8 o8 her hbd
       unfold Nd.val
       go_wp2_with (at_builtin; refine wpList_append_own_at _ rfl (.tmp 9) (.tmp 12) 98 rfl (w.heap.size + 1) 100 i0 (.agg #[.int .i64 0, .int .u64 0, .int .u64 0, .int .u64 0, .int .u64 0, .slice none 0 0]) 6 64 Tryz.underlying98 hi hz0 hz1 hz2 rfl (by decide) (.slice p nds.length c) nds.length (ndRow nds) rfl (HOWN8.out.alloc _) ⟨w8.heap.size, 0, none⟩ 1 1 (Nd.vals nd) rfl rfl ?c1 ?c2 ?c3 ?c4 ?c5 ?_)
       case c1 => exact nd_new w8 nd
       case c2 => simp [Nd.vals, Value.oneCell']
       case c3 => unfold maxLen; omega
       case c4 => omega
       case c5 => simp; omega
       intro v9 w9 hown9 hgrow9 _ hat9
       obtain ⟨g9, c9, rfl, hc9⟩ := rg_own_succ hown9
       have hP := part_app (w0 := w) (wr := w7) (n0 := w.heap.size + 1) (nd := nd) HOWN6.out HRES6.out HONL6.out HO8.out HB2.out rfl hgrow9 hat9
       have hR9 := hP.2.2.1 _ _ _ _ _ HR8.out
       have HP := kH (And.intro hP (And.intro hR9 hown9))
       clear hP hR9 hown9 hgrow9 hat9
       go_wp2_with fail
       go_roundg (gk - 1)
       case measure => have := HFG.out.1; omega
       case rel =>
        have hl9 : (nds ++ [nd]).length = nds.length + 1 := by simp
        refine ⟨some ⟨g9, 0, none⟩, c9, nds ++ [nd], by rw [hl9], kH ?_⟩
        rw [hl9]
        refine ⟨?_, ?_, HP.out.1.1, HP.out.1.2.1, .inr ⟨bd, er, HXE.out, HE.out.1, HE.out.2, HP.out.2.1⟩⟩
        ·
         rw [hl9, ndRow_append]; simpa [ndRow] using HP.out.2.2
        ·
         rw [hl9]; have := HFG.out.1; have := HSL.out; omega
      | ok y =>
       obtain ⟨t, r2⟩ := y
       rw [hth] at hXl PA2
       have HXE := kH hXl
       have hlr := rg_partR_len HGL.out hth
       clear hl2 hf hgk hXl hR hts e3 e4 hr hlen hstep hth hx
       go_wp2_with fail
       refine (TK.out _ HR.out).mono ?_
       rintro e w7 ⟨rfl, hr7, o7⟩
       have hk7 : ∀ g, g < wr.heap.size → g ≠ b → w7.heap[g]? = wr.heap[g]? := fun g h1 h2 => o7.block g h1 h2
       have HOWN6 : Hid (w7.ownsRow (w.heap.size + 1) 100 6 (.slice p nds.length c) nds.length (ndRow nds)) := kH (rg_own_kept HS.out.own (fun g hg => hk7 g (rg_own_base HS.out.own g hg).2 (by have := (rg_own_base HS.out.own g hg).1; have := HB2.out; omega)))
       have HRES6 : Hid (BlkN w7 w.heap.size Nd.zero) := kH (HS.out.res.onl o7 (fun e => HB.out e.symm))
       have HONL6 : Hid (Onl b w w7) := kH (HS.out.onl.trans o7)
       have HTW6 : Hid (TreesN w7 (Free (w.heap.size + 1) (.slice p nds.length c)) ts nds) := kH (TreesN.kept (w := wr) (w' := w7) (fun k hk hl => hk7 k hl (by have := hk.1; have := HB2.out; omega)) (fun _ h _ => h) _ _ HTW.out)
       have HSL := kH HS.out.len
       have hnl : nds.length ≤ 20000 := by have := HS.out.len; omega
       have HR7 := kH hr7
       clear HS hk7 hr7 o7
       go_wp2_with fail
       refine (PA2.out w7 HR7.out).mono ?_
       rintro e w8 ⟨hs8, v, rfl, ⟨nd, rfl, ht8⟩, hr8, o8⟩
       have HE := kH hs8
       have HT8 := kH ht8
       have HR8 := kH hr8
       have HO8 := kH o8
       have HOWN8 : Hid (w8.ownsRow (w.heap.size + 1) 100 6 (.slice p nds.length c) nds.length (ndRow nds)) := kH (rg_own_kept HOWN6.out (fun g hg => o8.block g (rg_own_base HOWN6.out g hg).2 (by have := (rg_own_base HOWN6.out g hg).1; have := HB2.out; omega)))
       have hw8 : w.heap.size + 1 ≤ w8.heap.size := by have := HRES6.out.lt; have := o8.size; omega
       clear hr8 o8 hs8 ht8
       unfold Nd.val
       go_wp2_with (at_builtin; refine wpList_append_own_at _ rfl (.tmp 9) (.tmp 12) 98 rfl (w.heap.size + 1) 100 i0 (.agg #[.int .i64 0, .int .u64 0, .int .u64 0, .int .u64 0, .int .u64 0, .slice none 0 0]) 6 64 Tryz.underlying98 hi hz0 hz1 hz2 rfl (by decide) (.slice p nds.length c) nds.length (ndRow nds) rfl (HOWN8.out.alloc _) ⟨w8.heap.size, 0, none⟩ 1 1 (Nd.vals nd) rfl rfl ?c1 ?c2 ?c3 ?c4 ?c5 ?_)
       case c1 => exact nd_new w8 nd
       case c2 => simp [Nd.vals, Value.oneCell']
       case c3 => unfold maxLen; omega
       case c4 => omega
       case c5 => simp; omega
       intro v9 w9 hown9 hgrow9 _ hat9
       obtain ⟨g9, c9, rfl, hc9⟩ := rg_own_succ hown9
       have hP := part_app (w0 := w) (wr := w7) (n0 := w.heap.size + 1) (nd := nd) HOWN6.out HRES6.out HONL6.out HO8.out HB2.out rfl hgrow9 hat9
       have hR9 := hP.2.2.1 _ _ _ _ _ HR8.out
       have hT9 := hP.2.2.2 ts t HTW6.out HT8.out
       have HP := kH (And.intro hP (And.intro hR9 (And.intro hown9 hT9)))
       clear hP hR9 hown9 hgrow9 hat9 hT9
       go_wp2_with fail
       go_roundg (gk - 1)
       case measure => have := HFG.out.1; omega
       case rel =>
        have hl9 : (nds ++ [nd]).length = nds.length + 1 := by simp
        refine ⟨some ⟨g9, 0, none⟩, c9, nds ++ [nd], by rw [hl9], kH ?_⟩
        rw [hl9]
        refine ⟨?_, ?_, HP.out.1.1, HP.out.1.2.1, .inl ⟨f', r2, ts ++ [t], HE.out, by have := HFG.out.2; omega, by have := HFG.out.1; omega, HXE.out, HP.out.2.1, HP.out.2.2.2⟩⟩
        ·
         rw [hl9, ndRow_append]; simpa [ndRow] using HP.out.2.2.1
        ·
         rw [hl9]; have := HFG.out.1; have := HSL.out; omega
     ·
      have TK := kH fun W H => rtake_no b s q op 0 0 124 W H hq (by rw [hqc]; exact hx)
      rw [show (((124 : UInt8).toNat : Nat) : Int) = 124 from rfl] at TK
      have HXE : Hid (X = .ok (ts, x :: r)) := kH (by rw [← hXl]; unfold patLoop; simp only; rw [if_neg hx])
      have HSF := HSX
      clear hl2 hf hgk hXl hR hts e3 e4 hr hlen hx
      go_wp2_with fail
      refine (TK.out _ HR.out).mono ?_
      rintro e w7 ⟨rfl, m7, rfl⟩
      have hts := HTW.out
      have HOWN : Hid ((wr.drewN m7).ownsRow 0 100 6 (.slice p nds.length c) nds.length (ndRow nds)) := kH (rg_own_less HS.out.own (Nat.zero_le _))
      have HRES : Hid (BlkN (wr.drewN m7) w.heap.size Nd.zero) := kH HS.out.res
      have HONL : Hid (Onl b w (wr.drewN m7)) := kH HS.out.onl.drewN
      have HLN : Hid (nds.length ≤ 100000) := kH (by have := HS.out.len; omega)
      have HOB : Hid (∀ g, (Value.slice p nds.length c).ownBlock = some g → w.heap.size + 1 ≤ g) := kH (fun g hg => (rg_own_base HS.out.own g hg).1)
      have HTS : Hid (TreesN (wr.drewN m7) (fun k => w.heap.size + 1 ≤ k) ts nds) := kH (TreesN.kept (w := wr) (w' := (wr.drewN m7)) (B := Free (w.heap.size + 1) (.slice p nds.length c)) (B' := fun k => w.heap.size + 1 ≤ k) (fun _ _ _ => rfl) (fun _ h _ => h.1) ts nds hts)
      have HRG : Hid (Rg (wr.drewN m7) b s q op 0 0) := kH HR.out
      go_wp2_with fail
      refine (GA.out p c nds _ HOWN.out HLN.out).mono ?_
      rintro e w9 ⟨rfl, hb9⟩
      have HTR := kH (gather_tree (k := 3) HOWN.out HOB.out HTS.out)
      have HTR := kH (HTR.out.kept (w' := w9) (B' := fun k => w.heap.size + 1 ≤ k) (fun k _ hk => hb9.block k hk) (fun k hk _ => hk))
      generalize gatherN ((3 : Nat) : Int) p nds.length c nds = nd at *
      have HR9 := kH (HRG.out.below hb9)
      have HO9 := kH (HONL.out.trans (Onl.of_below hb9 (Nat.le_refl _)))
      have HN9 := kH (HRES.out.below hb9)
      clear hb9
      unfold Nd.val
      obtain ⟨d0, d1, d2, d3, d4, d5, k0, k1, k2, k3, k4, k5⟩ := HN9.out.cells
      go_wp2_with fail
      try rw [Exit.noGoto_ret]
      exact bodyPost_ret (v := nd.val) (by simp [results, Tryz.results130, go_sem, Nd.val, d0, d1, d2, d3, d4, d5]) rfl (by
       have hR := HR9.out.put6 (fun e => HB.out e.symm) nd
       have hO := HO9.out.put6 (Nat.le_refl _) nd
       rw [HXE.out]
       exact ⟨HSF.out.1, _, rfl, VN.stored HTR.out (Nat.lt_succ_self _), by rw [HSF.out.2]; exact hR, hO⟩)
   ·
    have HR := kH hR
    have HE := kH (And.intro her hbd)
    have HXE := kH hXe
    clear hXe her hbd hR
    go_wp2_with fail
    refine (TE.out _ _ _ 124 HR.out).mono ?_
    rintro e w7 ⟨rfl, m7, rfl⟩
    have HOWN : Hid ((wr.drewN m7).ownsRow 0 100 6 (.slice p nds.length c) nds.length (ndRow nds)) := kH (rg_own_less HS.out.own (Nat.zero_le _))
    have HRES : Hid (BlkN (wr.drewN m7) w.heap.size Nd.zero) := kH HS.out.res
    have HONL : Hid (Onl b w (wr.drewN m7)) := kH HS.out.onl.drewN
    have HLN : Hid (nds.length ≤ 100000) := kH (by have := HS.out.len; omega)
    have HRG : Hid (Rg (wr.drewN m7) b s s.size op (s.size - bd) er) := kH HR.out
    go_wp2_with fail
    refine (GA.out p c nds _ HOWN.out HLN.out).mono ?_
    rintro e w9 ⟨rfl, hb9⟩
    generalize gatherN ((3 : Nat) : Int) p nds.length c nds = nd at *
    have HR9 := kH (HRG.out.below hb9)
    have HO9 := kH (HONL.out.trans (Onl.of_below hb9 (Nat.le_refl _)))
    have HN9 := kH (HRES.out.below hb9)
    clear hb9
    unfold Nd.val
    obtain ⟨d0, d1, d2, d3, d4, d5, k0, k1, k2, k3, k4, k5⟩ := HN9.out.cells
    go_wp2_with fail
    try rw [Exit.noGoto_ret]
    exact bodyPost_ret (v := nd.val) (by simp [results, Tryz.results130, go_sem, Nd.val, d0, d1, d2, d3, d4, d5]) rfl (by
     have hR := HR9.out.put6 (fun e => HB.out e.symm) nd
     have hO := HO9.out.put6 (Nat.le_refl _) nd
     rw [HXE.out]
     exact ⟨HE.out.1, HE.out.2, _, rfl, ⟨_, rfl⟩, hR, hO⟩)
end Go.Proofs.YtmbfdkiejneheaaGreatDoor
