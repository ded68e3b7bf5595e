/-
 CONTRACTS of layer 9's gather, often, thing: nodes as one, what a sign makes, one thing.
-/
import Derived.Test.YtmbfdkiejneheaaGreatDoorLxM
import Derived.Test.YtmbfdkiejneheaaGreatDoorPaW2
import Derived.Test.YtmbfdkiejneheaaGreatDoorOrd
import Derived.Deep.LoopGhost
import Derived.Deep.DeepCutAuto
import Derived.Deep.CutBlock
namespace Go.Proofs.YtmbfdkiejneheaaGreatDoor
open Go.RowKit

theorem rnot_x (a b c d : Int) (W : World) :
  Calls Tryz.prog 140 #[.agg #[.int .u64 a, .int .u64 b, .int .u64 c, .int .u64 d]] W fun e w' => e = .returned (.agg #[.int .u64 (notW ⟨a, b, c, d⟩).a, .int .u64 (notW ⟨a, b, c, d⟩).b, .int .u64 (notW ⟨a, b, c, d⟩).c, .int .u64 (notW ⟨a, b, c, d⟩).d]) ∧ Below W.heap.size W w' := rnot_any ⟨a, b, c, d⟩ W
theorem ror_x (a b c d : Int) (t : W4) (W : World) :
  Calls Tryz.prog 144 #[.agg #[.int .u64 a, .int .u64 b, .int .u64 c, .int .u64 d], .agg #[.int .u64 t.a, .int .u64 t.b, .int .u64 t.c, .int .u64 t.d]] W fun e w' => e = .returned (.agg #[.int .u64 (orW ⟨a, b, c, d⟩ t).a, .int .u64 (orW ⟨a, b, c, d⟩ t).b, .int .u64 (orW ⟨a, b, c, d⟩ t).c, .int .u64 (orW ⟨a, b, c, d⟩ t).d]) ∧ Below W.heap.size W w' := ror_any ⟨a, b, c, d⟩ t W
/-- Where the loop of a set stands: more is to come, or an error is told. -/
def SetSt (s : ByteArray) (b n op : Nat) (X : PR W4) (gk : Nat) (cur : W4) (w : World) : Prop :=
 (∃ (f : Nat) (l : List UInt8), l <:+ s.data.toList ∧ l.length < f ∧ l.length ≤ gk ∧ setLoop withW orW n f l cur = X ∧ Rg w b s (s.size - l.length) op 0 0) ∨
 (∃ bd er, X = .error (bd, er) ∧ (er = 9 ∨ er = 14) ∧ bd ≤ s.size ∧ Rg w b s s.size op (s.size - bd) er)
theorem rg_nextR_len : ∀ {l : List UInt8} {c : UInt8} {r : List UInt8}, nextR l = .ok (c, r) → r.length < l.length
 | [], _, _, h => by simp [nextR] at h
 | x :: l, c, r, h => by
  simp only [nextR] at h
  split at h
  ·
   split at h
   ·
    cases h
   ·
    split at h
    ·
     cases h
    ·
     cases h; simp; omega
  ·
   cases h; simp
theorem rg_spanR_len {n : Nat} {c : UInt8} {r r2 : List UInt8} {t : W4} (h : spanR withW n (c :: r) = .ok (t, r2)) : r2.length ≤ r.length := by
 simp only [spanR] at h
 split at h
 ·
  cases h
 ·
  rename_i lo r1 hx
  have h1 := rg_nextR_len hx
  simp only [List.length_cons] at h1
  split at h
  ·
   split at h
   ·
    cases h
   ·
    rename_i hi r3 hy
    have h2 := rg_nextR_len hy
    rw [List.length_drop] at h2
    split at h
    ·
     cases h
    ·
     cases h; omega
  ·
   cases h; omega
/-- What the loop of a set comes to. -/
def setX (n : Nat) (l1 : List UInt8) : PR W4 := match spanR withW n l1 with
 | .error x => .error x
 | .ok (t, r) => setLoop withW orW n (r.length + 1) r t
def setF (nt : Bool) (X : PR W4) : PR RT := match X with
 | .error x => .error x
 | .ok (t, r) => .ok (.mk 1 (if nt then notW t else t) [], r)
theorem setR_eq (l : List UInt8) : setR withW notW orW l = setF (decide (l.head? = some 94)) (setX (l.length + 1) (if l.head? = some 94 then l.drop 1 else l)) := by
 unfold setR setF setX
 simp only
 cases spanR withW (l.length + 1) (if l.head? = some 94 then l.drop 1 else l) with
 | error x => rfl
 | ok x =>
  obtain ⟨t, r⟩ := x
  simp only
  cases setLoop withW orW (l.length + 1) (r.length + 1) r t with
  | error x => rfl
  | ok x => obtain ⟨t2, r2⟩ := x; rfl
set_option maxHeartbeats 8000000 in
set_option maxRecDepth 100000 in
theorem rset_any (b : Nat) (s : ByteArray) (op : Nat) (l : List UInt8) (w : World) (h : Rg w b s (s.size - (l.length + 1)) op 0 0) (hl : (91 :: l) <:+ s.data.toList) (hs : s.size ≤ 100000) :
  Calls Tryz.prog 139 #[.pointer (some ⟨b, 0, none⟩)] w (RdP (VN w.heap.size) GN b s op (setR withW notW orW l) w) := by
 have OR := kH ror_x
 have NT := kH rnot_x
 have HB : Hid (b ≠ w.heap.size) := kH (by have := h.lt; omega)
 have HB2 : Hid (b < w.heap.size) := kH h.lt
 obtain ⟨p, hp, hc, e1, e2, hr, hlen⟩ := rg_cons hl
 obtain ⟨n, hn⟩ : ∃ n, l.length + 1 = n := ⟨_, rfl⟩
 have hns : n ≤ s.size := by omega
 have SP := kH fun W (l2 : List UInt8) (H : Rg W b s (s.size - l2.length) op 0 0) (hl2 : l2 <:+ s.data.toList) => rspan_any b s op n l2 W H hl2 hs hns
 rw [setR_eq l, hn]
 rw [hn] at h e1
 have HP : Hid (s.size - n = p) := kH e1
 have TE := kH fun W bad er (c : Int) H => rtake_end b s op bad er c W H
 have DY := kH fun W bad er H => rdone_yes b s op bad er W H
 have hpb : ((s.size - n : Nat) : Int) ≤ 100000 := by omega
 obtain ⟨nt, hnt⟩ : ∃ nt, decide (l.head? = some 94) = nt := ⟨_, rfl⟩
 obtain ⟨l1, hl1⟩ : ∃ l1, (if l.head? = some 94 then l.drop 1 else l) = l1 := ⟨_, rfl⟩
 rw [hnt, hl1]
 obtain ⟨X, hX⟩ : ∃ X, setX n l1 = X := ⟨_, rfl⟩
 rw [hX]
 have HX := kH hX
 have HL1 := kH (And.intro hnt hl1)
 have HLL := kH (And.intro hr (And.intro e2 hn))
 have HR := kH h
 obtain ⟨c0, c1, c2, c3, c4, f1, f2, f3, f4⟩ := h.cells
 have hblt := h.lt
 clear hX hnt hl1 h hl e1 e2 hr hlen hc hn
 go_enter Tryz.func139, Tryz.ntmps139
 have TY := kH fun W c (hc : ∃ hp1 : p + 1 < s.size, s[p + 1] = c) H => rtake_yes b s (p + 1) op 0 0 c W H hc.1 hc.2 hs
 have TN := kH fun W c (hc : ∃ hp1 : p + 1 < s.size, s[p + 1] ≠ c) H => rtake_no b s (p + 1) op 0 0 c W H hc.1 hc.2
 go_upto_region 3 with fail
 have HR1 := kH ((HR.out.setP (s.size - n + 1)).alloc (.cells #[.int .i64 0, .int .u64 0, .int .u64 0, .int .u64 0, .int .u64 0, .slice none 0 0] 100))
 have HO1 := kH (((Onl.refl b w).setCell 1 (.int .i64 ((s.size - n + 1 : Nat) : Int))).alloc (.cells #[.int .i64 0, .int .u64 0, .int .u64 0, .int .u64 0, .int .u64 0, .slice none 0 0] 100))
 have HN1 : Hid (BlkN ((w.setCell ⟨b, 1, none⟩ (.int .i64 ((s.size - n + 1 : Nat) : Int))).alloc (.cells #[.int .i64 0, .int .u64 0, .int .u64 0, .int .u64 0, .int .u64 0, .slice none 0 0] 100)) w.heap.size Nd.zero) := kH (by
  have := BlkN.new (w.setCell ⟨b, 1, none⟩ (.int .i64 ((s.size - n + 1 : Nat) : Int)))
  rwa [World.size_setCell] at this)
 clear HR c0 c1 c2 c3 c4 f1 f2 f3 f4
 rw [show (((s.size - n + 1 : Nat) : Nat) : Int) = ((s.size - n : Nat) : Int) + 1 from rfl] at HR1 HO1 HN1
 generalize (w.setCell ⟨b, 1, none⟩ (.int .i64 (((s.size - n : Nat) : Int) + 1))).alloc (.cells #[.int .i64 0, .int .u64 0, .int .u64 0, .int .u64 0, .int .u64 0, .slice none 0 0] 100) = w1 at *
 go_cut [4] (fun v4 wx => v4 = .bool nt ∧ Hid (l1 <:+ s.data.toList ∧ Rg wx b s (s.size - l1.length) op 0 0) ∧ Hid (BlkN wx w.heap.size Nd.zero) ∧ Hid (Onl b w wx))
 case first =>
  have hR1 := HR1.out
  rw [HP.out] at hR1
  rcases l with _ | ⟨x, r⟩
  ·
   have hnt : nt = false := by rw [← HL1.out.1]; rfl
   have hl1 : l1 = [] := by rw [← HL1.out.2]; rfl
   have he : p + 1 = s.size := by have := HLL.out.2.1; simp at this; omega
   subst hnt
   subst hl1
   rw [he] at hR1
   have TE2 := kH fun W H => TE.out W 0 0 94 H
   have HR1 := kH hR1
   clear hR1 he TE
   go_wp2_with fail
   refine (TE2.out _ HR1.out).mono ?_
   rintro e w2 ⟨rfl, m, rfl⟩
   go_wp2_with fail
   go_meet
   exact ⟨rfl, kH ⟨List.nil_suffix, HR1.out.drewN m⟩, kH (HN1.out.drewN m), kH HO1.out.drewN⟩
  ·
   obtain ⟨p2, hp2, hc2, e3, e4, hr2, hlen2⟩ := rg_cons HLL.out.1
   have hpp : p + 1 = p2 := by rw [← HLL.out.2.1, List.length_cons]; exact e3
   subst hpp
   by_cases hx : x = 94
   ·
    have hnt : nt = true := by rw [← HL1.out.1, hx]; rfl
    have hl1 : l1 = r := by rw [← HL1.out.2, if_pos (by rw [hx]; rfl)]; rfl
    subst hnt
    subst hl1
    have TY2 := kH fun W H => TY.out W 94 ⟨hp2, by rw [hc2, hx]⟩ H
    rw [show (((94 : UInt8).toNat : Nat) : Int) = 94 from rfl] at TY2
    have HR1 := kH hR1
    have H2 := kH (And.intro hr2 e4)
    clear hR1 TY TN hx hc2 e3 e4 hr2 hlen2
    go_wp2_with fail
    refine (TY2.out _ HR1.out).mono ?_
    rintro e w2 ⟨rfl, hr2, o2⟩
    have HR2 := kH hr2
    have HO2 := kH o2
    clear hr2 o2
    go_wp2_with fail
    go_meet
    exact ⟨rfl, kH ⟨H2.out.1, by rw [H2.out.2]; exact HR2.out⟩, kH (HN1.out.onl HO2.out (fun e => HB.out e.symm)), kH (HO1.out.trans HO2.out)⟩
   ·
    have hnt : nt = false := by rw [← HL1.out.1]; simp [hx]
    have hl1 : l1 = x :: r := by rw [← HL1.out.2, if_neg (by simp [hx])]
    subst hnt
    subst hl1
    have TN2 := kH fun W H => TN.out W 94 ⟨hp2, by rw [hc2]; exact hx⟩ H
    rw [show (((94 : UInt8).toNat : Nat) : Int) = 94 from rfl] at TN2
    have HR1 := kH hR1
    have H2 := kH e3
    clear hR1 TY TN hx hc2 e3 e4 hr2 hlen2
    go_wp2_with fail
    refine (TN2.out _ HR1.out).mono ?_
    rintro e w2 ⟨rfl, m, rfl⟩
    go_wp2_with fail
    go_meet
    exact ⟨rfl, kH ⟨HLL.out.1, by rw [List.length_cons, H2.out]; exact HR1.out.drewN m⟩, kH (HN1.out.drewN m), kH HO1.out.drewN⟩
 case rest =>
  obtain ⟨rfl, HR2, HN2, HO2⟩ := hcut
  clear TY TN HR1 HO1 HN1 HL1 HLL HP
  go_upto_region 4 with fail
  go_cut [5] (fun v5 wx => ∃ (g5 : Nat) (cur : W4), v5 = .pointer (some ⟨g5, 0, none⟩) ∧ Hid (Blk4 wx g5 cur) ∧ Hid (SetSt s b n op X s.size cur wx) ∧ Hid (BlkN wx w.heap.size Nd.zero) ∧ Hid (Onl b w wx) ∧ Hid (g5 ≠ b ∧ w.heap.size ≤ g5 ∧ g5 ≠ w.heap.size))
  case first =>
   cases hx : spanR withW n l1 with
   | error x =>
    obtain ⟨bd, er⟩ := x
    have HXE : Hid (X = .error (bd, er)) := kH (by rw [← HX.out]; unfold setX; rw [hx])
    have SP2 := kH (SP.out _ l1 HR2.out.2 HR2.out.1)
    rw [hx] at SP2
    clear hx SP
    go_wp2_with fail
    refine SP2.out.mono ?_
    rintro e w2 ⟨her, hbd, v, rfl, ⟨a, rfl⟩, hr2, o2⟩
    have HE := kH (And.intro her hbd)
    have HR3 := kH hr2
    have HO3 := kH (HO2.out.trans o2)
    have HN3 := kH (HN2.out.onl o2 (fun e => HB.out e.symm))
    clear her hbd hr2 o2 SP2
    unfold W4.val
    go_wp2_with fail
    go_meet
    exact ⟨w2.heap.size, a, rfl, kH (Blk4.new w2 a), kH (.inr ⟨bd, er, HXE.out, HE.out.1, HE.out.2, HR3.out.alloc _⟩), kH (HN3.out.alloc _), kH (HO3.out.alloc _), kH ⟨by have := HR3.out.lt; omega, HO3.out.size, by have := HN3.out.lt; omega⟩⟩
   | ok x =>
    obtain ⟨a, r1⟩ := x
    have HXE : Hid (setLoop withW orW n (r1.length + 1) r1 a = X) := kH (by rw [← HX.out]; unfold setX; rw [hx])
    have SP2 := kH (SP.out _ l1 HR2.out.2 HR2.out.1)
    rw [hx] at SP2
    clear hx SP
    go_wp2_with fail
    refine SP2.out.mono ?_
    rintro e w2 ⟨hs1, v, rfl, rfl, hr2, o2⟩
    have HE := kH hs1
    have HR3 := kH hr2
    have HO3 := kH (HO2.out.trans o2)
    have HN3 := kH (HN2.out.onl o2 (fun e => HB.out e.symm))
    clear hs1 hr2 o2 SP2
    unfold W4.val
    go_wp2_with fail
    go_meet
    exact ⟨w2.heap.size, a, rfl, kH (Blk4.new w2 a), kH (.inl ⟨r1.length + 1, r1, HE.out, by omega, rg_len HE.out, HXE.out, HR3.out.alloc _⟩), kH (HN3.out.alloc _), kH (HO3.out.alloc _), kH ⟨by have := HR3.out.lt; omega, HO3.out.size, by have := HN3.out.lt; omega⟩⟩
  case rest =>
   obtain ⟨g5, cur0, rfl, HC, HS, HN, HO, HG⟩ := hcut
   clear HR2 HN2 HO2 HX
   go_wp2_with fail
   go_loopg [] s.size (fun gk wr => ∃ cur : W4, Hid (Blk4 wr g5 cur) ∧ Hid (SetSt s b n op X gk cur wr) ∧ Hid (BlkN wr w.heap.size Nd.zero) ∧ Hid (Onl b w wr))
   case atStart => exact ⟨cur0, HC, HS, HN, HO⟩
   case round =>
    clear HC HS HN HO
    obtain ⟨cur, HC, HS, HN, HO⟩ := hrel
    rcases HS.out with ⟨f, l2, hl2, hf, hgk, hXl, hR⟩ | ⟨bd, er, hXe, her, hbd, hR⟩
    ·
     rcases l2 with _ | ⟨x, r⟩
     ·
      have HXE : Hid (X = .error (n, 9)) := kH (by
       rw [← hXl]
       obtain ⟨f', rfl⟩ : ∃ f', f = f' + 1 := ⟨f - 1, by omega⟩
       rfl)
      have HR : Hid (Rg wr b s s.size op 0 0) := kH hR
      have F0 := kH fun W H => rfail0 b s s.size op 0 (s.size - n) 9 W H
      clear HS hl2 hf hgk hXl hR
      go_wp2_with fail
      refine (TE.out _ _ _ 93 HR.out).mono ?_
      rintro e w7 ⟨rfl, m7, rfl⟩
      go_wp2_with fail
      refine (DY.out _ _ _ (HR.out.drewN m7)).mono ?_
      rintro e w8 ⟨rfl, m8, rfl⟩
      go_wp2_with fail
      refine (F0.out _ (HR.out.drewN _)).mono ?_
      rintro e w9 ⟨rfl, hr9, o9⟩
      have HR9 := kH hr9
      have HO9 := kH ((HO.out.drewN (n := m7 + m8)).trans o9)
      have HN9 := kH ((HN.out.drewN (m7 + m8)).onl o9 (fun e => HB.out e.symm))
      clear hr9 o9 HR HO HN
      obtain ⟨d0, d1, d2, d3, d4, d5, k0, k1, k2, k3, k4, k5⟩ := HN9.out.cells
      go_wp2_with fail
      exact bodyPost_ret (v := Nd.zero.val) (by simp [results, Tryz.results139, go_sem, Nd.val, Nd.zero, W4.zero, d0, d1, d2, d3, d4, d5]) rfl (by
       have hR := HR9.out.put6 (fun e => HB.out e.symm) Nd.zero
       have hO := HO9.out.put6 (Nat.le_refl _) Nd.zero
       rw [HXE.out]
       exact ⟨.inl rfl, hns, _, rfl, ⟨_, rfl⟩, hR, hO⟩)
     ·
      obtain ⟨q, hq, hqc, e3, e4, hr, hlen⟩ := rg_cons hl2
      rw [List.length_cons, e3] at hR
      have HR : Hid (Rg wr b s q op 0 0) := kH hR
      obtain ⟨f', rfl⟩ : ∃ f', f = f' + 1 := ⟨f - 1, by omega⟩
      by_cases hx : x = 93
      ·
       have HXE : Hid (X = .ok (cur, r)) := kH (by rw [← hXl]; unfold setLoop; simp only; rw [if_pos hx])
       have TK := kH fun W H => rtake_yes b s q op 0 0 93 W H hq (by rw [hqc]; exact hx) hs
       rw [show (((93 : UInt8).toNat : Nat) : Int) = 93 from rfl] at TK
       have H2 := kH (And.intro hr e4)
       clear HS hl2 hf hgk hXl hR hqc e3 e4 hr hlen hx
       cases nt
       all_goals
        go_wp2_with fail
        refine (TK.out _ HR.out).mono ?_
        rintro e w7 ⟨rfl, hr7, o7⟩
        have HR7 := kH hr7
        have HO7 := kH (HO.out.trans o7)
        have HN7 := kH (HN.out.onl o7 (fun e => HB.out e.symm))
        have HC7 := kH (HC.out.onl o7 HG.out.1)
        clear hr7 o7 HR HO HN HC
        obtain ⟨c0, c1, c2, c3, f0, f1, f2, f3⟩ := HC7.out.cells
       ·
        obtain ⟨d0, d1, d2, d3, d4, d5, k0, k1, k2, k3, k4, k5⟩ := HN7.out.cells
        go_wp2_with fail
        exact bodyPost_ret (v := (⟨1, cur, none, 0, 0⟩ : Nd).val) (by simp [results, Tryz.results139, go_sem, Nd.val, d0, d1, d2, d3, d4, d5]) rfl (by
         have hR := HR7.out.put6 (fun e => HB.out e.symm) ⟨1, cur, none, 0, 0⟩
         have hO := HO7.out.put6 (Nat.le_refl _) ⟨1, cur, none, 0, 0⟩
         rw [HXE.out]
         exact ⟨H2.out.1, _, rfl, ⟨_, rfl, TreeN.leaf _ _ 1 cur⟩, by rw [H2.out.2]; exact hR, hO⟩)
       ·
        go_wp2_with fail
        refine (NT.out _ _ _ _ _).mono ?_
        rintro e w8 ⟨rfl, hb8⟩
        rw [show notW ⟨cur.a, cur.b, cur.c, cur.d⟩ = notW cur from rfl]
        obtain ⟨nc, hnc⟩ : ∃ nc, notW cur = nc := ⟨_, rfl⟩
        have HNC := kH hnc
        rw [hnc]
        have HR8 := kH ((HR7.out.below hb8).put4 HG.out.1 nc)
        have HO8 := kH ((HO7.out.trans (Onl.of_below hb8 (Nat.le_refl _))).put4 HG.out.2.1 nc)
        have HN8 := kH (((((HN7.out.below hb8).setNew (p := ⟨g5, 0, none⟩) HG.out.2.2 (.int .u64 nc.a)).setNew (p := ⟨g5, 1, none⟩) HG.out.2.2 (.int .u64 nc.b)).setNew (p := ⟨g5, 2, none⟩) HG.out.2.2 (.int .u64 nc.c)).setNew (p := ⟨g5, 3, none⟩) HG.out.2.2 (.int .u64 nc.d))
        clear c0 c1 c2 c3 f0 f1 f2 f3 hnc
        obtain ⟨c0, c1, c2, c3, f0, f1, f2, f3⟩ := (HC7.out.below hb8).cells
        have hg52 := HG.out.2.2
        clear hb8 HR7 HO7 HN7 HC7
        obtain ⟨d0, d1, d2, d3, d4, d5, k0, k1, k2, k3, k4, k5⟩ := HN8.out.cells
        go_wp2_with fail
        exact bodyPost_ret (v := (⟨1, nc, none, 0, 0⟩ : Nd).val) (by simp [results, Tryz.results139, go_sem, Nd.val, d0, d1, d2, d3, d4, d5]) rfl (by
         have hR := HR8.out.put6 (fun e => HB.out e.symm) ⟨1, nc, none, 0, 0⟩
         have hO := HO8.out.put6 (Nat.le_refl _) ⟨1, nc, none, 0, 0⟩
         rw [HXE.out]
         exact ⟨H2.out.1, _, rfl, ⟨_, rfl, by rw [if_pos rfl, HNC.out]; exact TreeN.leaf _ _ 1 nc⟩, by rw [H2.out.2]; exact hR, hO⟩)
      ·
       have TK := kH fun W H => rtake_no b s q op 0 0 93 W H hq (by rw [hqc]; exact hx)
       rw [show (((93 : UInt8).toNat : Nat) : Int) = 93 from rfl] at TK
       have DN := kH fun W H => rdone_no b s q op 0 0 W H hq
       have SP2 := kH fun W (H : Rg W b s q op 0 0) => SP.out W (x :: r) (by rw [List.length_cons, e3]; exact H) hl2
       have hgk1 : r.length + 1 ≤ gk := hgk
       have hxl : setLoop withW orW n (f' + 1) (x :: r) cur = match spanR withW n (x :: r) with
         | .error y => .error y
         | .ok (t, r2) => setLoop withW orW n f' r2 (orW cur t) := by
        conv => lhs; unfold setLoop
        simp only
        rw [if_neg hx]
        cases spanR withW n (x :: r) with
        | error y => rfl
        | ok y => rfl
       rw [hxl] at hXl
       cases hsp : spanR withW n (x :: r) with
       | error y =>
        obtain ⟨bd, er⟩ := y
        rw [hsp] at hXl SP2
        have HXE := kH hXl
        clear HS hl2 hf hXl hR hqc e3 e4 hr hlen hx hxl hsp
        go_wp2_with fail
        refine (TK.out _ HR.out).mono ?_
        rintro e w7 ⟨rfl, m7, rfl⟩
        go_wp2_with fail
        refine (DN.out _ (HR.out.drewN _)).mono ?_
        rintro e w8 ⟨rfl, m8, rfl⟩
        have HR := kH (HR.out.drewN (m7 + m8))
        have HO := kH (HO.out.drewN (n := m7 + m8))
        have HN := kH (HN.out.drewN (m7 + m8))
        have HC := kH (HC.out.drewN (m7 + m8))
        rw [World.drewN_drewN]
        go_wp2_with fail
        generalize wr.drewN (m7 + m8) = w7 at *
        refine wp_region_L (st := [5]) (S := fun w' => Blk4 w' g5 cur) (by kernel_rfl) (show Blk4 w7.drew g5 cur from HC.out) (fun hHeld => ?_)
        refine tkL 0 (v := ?_) rfl ?_ ?_
        rotate_left
        ·
         (intro w hSw; (obtain ⟨q0, q1, q2, q3, _, _, _, _⟩ := Blk4.cells hSw); go_simp; try with_reducible rfl)
        try simp only [nrm]
        refine tkL 1 (v := ?_) rfl ?_ ?_
        rotate_left
        ·
         (intro w hSw; (obtain ⟨q0, q1, q2, q3, _, _, _, _⟩ := Blk4.cells hSw); go_simp; try with_reducible rfl)
        try simp only [nrm]
        refine tkL 2 (v := ?_) rfl ?_ ?_
        rotate_left
        ·
         (intro w hSw; (obtain ⟨q0, q1, q2, q3, _, _, _, _⟩ := Blk4.cells hSw); go_simp; try with_reducible rfl)
        try simp only [nrm]
        refine rdL 3 rfl (fun K hK => ?_)
        go_simp
        refine (SP2.out (World.drew w7) HR.out).mono ?_
        rintro e w8 ⟨her, hbd, v, rfl, ⟨a, rfl⟩, hr8, o8⟩
        have HE := kH (And.intro her hbd)
        clear her hbd
        have HR8 := kH hr8
        have HO8 := kH ((HO.out.drew).trans o8)
        have HN8 := kH (BlkN.onl (w := w7.drew) HN.out o8 (fun e => HB.out e.symm))
        have HC8 := kH (Blk4.onl (w := w7.drew) hHeld o8 HG.out.1)
        clear hr8 o8
        unfold W4.val
        refine hK.out _ _ (HC8.out) (fun hHeld => ?_)
        clear hK K
        try simp only [nrm]
        refine rdL 4 rfl (fun K hK => ?_)
        go_simp
        refine (OR.out _ _ _ _ a _).mono ?_
        rintro e w9 ⟨rfl, hb9⟩
        have HC9 := kH (HC8.out.below hb9)
        have HR9 := kH (HR8.out.below hb9)
        have HN9 := kH (HN8.out.below hb9)
        have HO9 := kH (HO8.out.trans (Onl.of_below hb9 (Nat.le_refl _)))
        clear hb9
        rw [show orW ⟨cur.a, cur.b, cur.c, cur.d⟩ a = orW cur a from rfl]
        refine hK.out _ _ (HC9.out) (fun hHeld => ?_)
        clear hK K
        try simp only [nrm]
        obtain ⟨q0, q1, q2, q3, p0, p1, p2, p3⟩ := HC9.out.cells
        refine wpAnyL_ready (rs := [5]) (by kernel_rfl) (by simp) ?_
        refine AllReadyL.store (o := _) rfl (by decide) (by decide) (fun K hK => ?_) AllReadyL.nil
        go_simp
        refine hK.out _ _ ?_
        clear hK K
        try simp only [nrm]
        refine wpAnyL_done (by kernel_rfl) ?_ _
        have HN10 := kH (((((HN9.out.setNew (p := ⟨g5, 0, none⟩) HG.out.2.2 (.int .u64 (orW cur a).a)).setNew (p := ⟨g5, 1, none⟩) HG.out.2.2 (.int .u64 (orW cur a).b)).setNew (p := ⟨g5, 2, none⟩) HG.out.2.2 (.int .u64 (orW cur a).c)).setNew (p := ⟨g5, 3, none⟩) HG.out.2.2 (.int .u64 (orW cur a).d)))
        have HR10 := kH (HR9.out.put4 HG.out.1 (orW cur a))
        have HO10 := kH (HO9.out.put4 HG.out.2.1 (orW cur a))
        have HC10 := kH (HC9.out.put (orW cur a))
        go_wp2_with fail
        go_roundg (gk - 1)
        case measure => omega
        case rel => exact ⟨orW cur a, HC10, kH (.inr ⟨bd, er, HXE.out.symm, HE.out.1, HE.out.2, HR10.out⟩), HN10, HO10⟩
       | ok y =>
        obtain ⟨a, r2⟩ := y
        rw [hsp] at hXl SP2
        have HXE := kH hXl
        have hlr := rg_spanR_len hsp
        have HLR : Hid (r2.length < f' ∧ r2.length ≤ gk - 1) := kH ⟨by simp only [List.length_cons] at hf; omega, by omega⟩
        clear HS hl2 hf hXl hR hqc e3 e4 hr hlen hx hxl hsp hlr
        go_wp2_with fail
        refine (TK.out _ HR.out).mono ?_
        rintro e w7 ⟨rfl, m7, rfl⟩
        go_wp2_with fail
        refine (DN.out _ (HR.out.drewN _)).mono ?_
        rintro e w8 ⟨rfl, m8, rfl⟩
        have HR := kH (HR.out.drewN (m7 + m8))
        have HO := kH (HO.out.drewN (n := m7 + m8))
        have HN := kH (HN.out.drewN (m7 + m8))
        have HC := kH (HC.out.drewN (m7 + m8))
        rw [World.drewN_drewN]
        go_wp2_with fail
        generalize wr.drewN (m7 + m8) = w7 at *
        refine wp_region_L (st := [5]) (S := fun w' => Blk4 w' g5 cur) (by kernel_rfl) (show Blk4 w7.drew g5 cur from HC.out) (fun hHeld => ?_)
        refine tkL 0 (v := ?_) rfl ?_ ?_
        rotate_left
        ·
         (intro w hSw; (obtain ⟨q0, q1, q2, q3, _, _, _, _⟩ := Blk4.cells hSw); go_simp; try with_reducible rfl)
        try simp only [nrm]
        refine tkL 1 (v := ?_) rfl ?_ ?_
        rotate_left
        ·
         (intro w hSw; (obtain ⟨q0, q1, q2, q3, _, _, _, _⟩ := Blk4.cells hSw); go_simp; try with_reducible rfl)
        try simp only [nrm]
        refine tkL 2 (v := ?_) rfl ?_ ?_
        rotate_left
        ·
         (intro w hSw; (obtain ⟨q0, q1, q2, q3, _, _, _, _⟩ := Blk4.cells hSw); go_simp; try with_reducible rfl)
        try simp only [nrm]
        refine rdL 3 rfl (fun K hK => ?_)
        go_simp
        refine (SP2.out (World.drew w7) HR.out).mono ?_
        rintro e w8 ⟨hs8, v, rfl, rfl, hr8, o8⟩
        have HE := kH hs8
        clear hs8
        have HR8 := kH hr8
        have HO8 := kH ((HO.out.drew).trans o8)
        have HN8 := kH (BlkN.onl (w := w7.drew) HN.out o8 (fun e => HB.out e.symm))
        have HC8 := kH (Blk4.onl (w := w7.drew) hHeld o8 HG.out.1)
        clear hr8 o8
        unfold W4.val
        refine hK.out _ _ (HC8.out) (fun hHeld => ?_)
        clear hK K
        try simp only [nrm]
        refine rdL 4 rfl (fun K hK => ?_)
        go_simp
        refine (OR.out _ _ _ _ a _).mono ?_
        rintro e w9 ⟨rfl, hb9⟩
        have HC9 := kH (HC8.out.below hb9)
        have HR9 := kH (HR8.out.below hb9)
        have HN9 := kH (HN8.out.below hb9)
        have HO9 := kH (HO8.out.trans (Onl.of_below hb9 (Nat.le_refl _)))
        clear hb9
        rw [show orW ⟨cur.a, cur.b, cur.c, cur.d⟩ a = orW cur a from rfl]
        refine hK.out _ _ (HC9.out) (fun hHeld => ?_)
        clear hK K
        try simp only [nrm]
        obtain ⟨q0, q1, q2, q3, p0, p1, p2, p3⟩ := HC9.out.cells
        refine wpAnyL_ready (rs := [5]) (by kernel_rfl) (by simp) ?_
        refine AllReadyL.store (o := _) rfl (by decide) (by decide) (fun K hK => ?_) AllReadyL.nil
        go_simp
        refine hK.out _ _ ?_
        clear hK K
        try simp only [nrm]
        refine wpAnyL_done (by kernel_rfl) ?_ _
        have HN10 := kH (((((HN9.out.setNew (p := ⟨g5, 0, none⟩) HG.out.2.2 (.int .u64 (orW cur a).a)).setNew (p := ⟨g5, 1, none⟩) HG.out.2.2 (.int .u64 (orW cur a).b)).setNew (p := ⟨g5, 2, none⟩) HG.out.2.2 (.int .u64 (orW cur a).c)).setNew (p := ⟨g5, 3, none⟩) HG.out.2.2 (.int .u64 (orW cur a).d)))
        have HR10 := kH (HR9.out.put4 HG.out.1 (orW cur a))
        have HO10 := kH (HO9.out.put4 HG.out.2.1 (orW cur a))
        have HC10 := kH (HC9.out.put (orW cur a))
        go_wp2_with fail
        go_roundg (gk - 1)
        case measure => omega
        case rel => exact ⟨orW cur a, HC10, kH (.inl ⟨f', r2, HE.out, HLR.out.1, HLR.out.2, HXE.out, HR10.out⟩), HN10, HO10⟩
    ·
     have HR := kH hR
     have HE := kH (And.intro her hbd)
     have HXE := kH hXe
     have F1 := kH fun W H => rfail1 b s s.size op (s.size - bd) er (s.size - n) 9 W H (by rcases HE.out.1 with h | h <;> omega)
     clear HS hXe her hbd hR
     go_wp2_with fail
     refine (TE.out _ _ _ 93 HR.out).mono ?_
     rintro e w7 ⟨rfl, m7, rfl⟩
     go_wp2_with fail
     refine (DY.out _ _ _ (HR.out.drewN m7)).mono ?_
     rintro e w8 ⟨rfl, m8, rfl⟩
     go_wp2_with fail
     refine (F1.out _ (HR.out.drewN _)).mono ?_
     rintro e w9 ⟨rfl, hr9, o9⟩
     have HR9 := kH hr9
     have HO9 := kH ((HO.out.drewN (n := m7 + m8)).trans o9)
     have HN9 := kH ((HN.out.drewN (m7 + m8)).onl o9 (fun e => HB.out e.symm))
     clear hr9 o9 HR HO HN
     obtain ⟨d0, d1, d2, d3, d4, d5, k0, k1, k2, k3, k4, k5⟩ := HN9.out.cells
     go_wp2_with fail
     exact bodyPost_ret (v := Nd.zero.val) (by simp [results, Tryz.results139, go_sem, Nd.val, Nd.zero, W4.zero, d0, d1, d2, d3, d4, d5]) rfl (by
      have hR := HR9.out.put6 (fun e => HB.out e.symm) Nd.zero
      have hO := HO9.out.put6 (Nat.le_refl _) Nd.zero
      rw [HXE.out]
      exact ⟨HE.out.1, HE.out.2, _, rfl, ⟨_, rfl⟩, hR, hO⟩)
end Go.Proofs.YtmbfdkiejneheaaGreatDoor

namespace Go.Proofs.YtmbfdkiejneheaaGreatDoor
open Go.RowKit

def gatherN (k : Int) (p : Option Addr) (n c : Nat) : List Nd → Nd
 | [] => Nd.zero
 | [x] => x
 | _ => ⟨k, W4.zero, p, n, c⟩
set_option maxHeartbeats 2000000 in
theorem rgather_any (k : Nat) (p : Option Addr) (c : Nat) (nds : List Nd) (w : World) (h : w.ownsRow 0 100 6 (.slice p nds.length c) nds.length (ndRow nds)) (hn : nds.length ≤ 100000) :
  Calls Tryz.prog 135 #[.int .i64 (k : Int), .slice p nds.length c] w fun e w' => e = .returned (gatherN k p nds.length c nds).val ∧ Below w.heap.size w w' := by
 have hZ := BlkN.new w
 obtain ⟨d0, d1, d2, d3, d4, d5, k0, k1, k2, k3, k4, k5⟩ := hZ.cells
 rcases nds with _ | ⟨x, _ | ⟨y, nds⟩⟩
 ·
  rw [show gatherN k p ([] : List Nd).length c [] = Nd.zero from rfl]
  rw [show (([] : List Nd).length) = 0 from rfl]
  clear h hZ
  go_enter Tryz.func135, Tryz.ntmps135
  go_wp2
  exact bodyPost_ret (v := Nd.zero.val) (by simp [results, Tryz.results135, go_sem, Nd.val, Nd.zero, W4.zero]) rfl ⟨rfl, (Below.refl _ _).alloc (Nat.le_refl _) _⟩
 ·
  obtain ⟨g, c', hv, hc⟩ := rg_own_succ (n := 0) h
  rw [show [x].length = 1 from rfl] at *
  obtain ⟨rfl, rfl⟩ : p = some ⟨g, 0, none⟩ ∧ c = c' := by simpa using hv
  clear hv
  have hg : g < w.heap.size := (rg_own_base h g rfl).2
  have q : ∀ j, j < 6 → w.cell? ⟨g, j, none⟩ = x.vals[j]? := fun j hj => by
   rw [h.cellAt j (by show j < 1 * 6; omega)]
   have := ndRow_get [x] 0 j (by simp) hj
   rw [show 0 * 6 + j = j from by omega] at this
   exact this
  have q0 : w.cell? ⟨g, 0, none⟩ = some (.int .i64 x.op) := q 0 (by omega)
  have q1 : w.cell? ⟨g, 1, none⟩ = some (.int .u64 x.set.a) := q 1 (by omega)
  have q2 : w.cell? ⟨g, 2, none⟩ = some (.int .u64 x.set.b) := q 2 (by omega)
  have q3 : w.cell? ⟨g, 3, none⟩ = some (.int .u64 x.set.c) := q 3 (by omega)
  have q4 : w.cell? ⟨g, 4, none⟩ = some (.int .u64 x.set.d) := q 4 (by omega)
  have q5 : w.cell? ⟨g, 5, none⟩ = some (.slice x.kp x.kn x.kc) := q 5 (by omega)
  rw [show gatherN k (some ⟨g, 0, none⟩) 1 c [x] = x from rfl]
  clear h hZ q
  go_enter Tryz.func135, Tryz.ntmps135
  go_wp2
  exact bodyPost_ret (v := x.val) (by simp [results, Tryz.results135, go_sem, Nd.val]) rfl ⟨rfl, (Below.refl _ _).alloc (Nat.le_refl _) _⟩
 ·
  rw [show gatherN k p (x :: y :: nds).length c (x :: y :: nds) = ⟨k, W4.zero, p, (x :: y :: nds).length, c⟩ from rfl]
  obtain ⟨n, hn2⟩ : ∃ n, (x :: y :: nds).length = n := ⟨_, rfl⟩
  have hn3 : 2 ≤ n := by rw [← hn2]; simp
  rw [hn2] at hn ⊢
  have e0 : ((n : Int) == 0) = false := by rw [Bool.eq_false_iff]; simp; omega
  have e1 : ((n : Int) == 1) = false := by rw [Bool.eq_false_iff]; simp; omega
  clear h hZ hn2
  go_enter Tryz.func135, Tryz.ntmps135
  go_wp2
  exact bodyPost_ret (v := (⟨k, W4.zero, p, n, c⟩ : Nd).val) (by simp [results, Tryz.results135, go_sem, Nd.val, W4.zero]) rfl ⟨rfl, (Below.refl _ _).alloc (Nat.le_refl _) _⟩
theorem roften_any (c : UInt8) (w : World) : Calls Tryz.prog 136 #[.int .u8 (c.toNat : Int)] w fun e w' => e = .returned (.int .i64 (oftenR c : Int)) ∧ w = w' := by
 have key : ∀ x : Nat, oftenR c = x → Hid (Calls Tryz.prog 136 #[.int .u8 (c.toNat : Int)] w fun e w' => e = .returned (.int .i64 (x : Int)) ∧ w = w') → Calls Tryz.prog 136 #[.int .u8 (c.toNat : Int)] w fun e w' => e = .returned (.int .i64 (oftenR c : Int)) ∧ w = w' := fun x h k => by rw [h]; exact k.out
 by_cases h1 : c = 42
 ·
  subst h1
  refine key 4 rfl (kH ?_)
  rw [show (((42 : UInt8).toNat : Nat) : Int) = 42 from rfl]
  go_enter Tryz.func136, Tryz.ntmps136
  go_wp2
  go_ret
  exact ⟨rfl, rfl⟩
 ·
  by_cases h2 : c = 43
  ·
   subst h2
   refine key 5 rfl (kH ?_)
   rw [show (((43 : UInt8).toNat : Nat) : Int) = 43 from rfl]
   go_enter Tryz.func136, Tryz.ntmps136
   go_wp2
   go_ret
   exact ⟨rfl, rfl⟩
  ·
   refine key 6 (by unfold oftenR; rw [if_neg h1, if_neg h2]) (kH ?_)
   have n1 : ¬ c.toNat = 42 := fun e => h1 (UInt8.toNat_inj.1 e)
   have n2 : ¬ c.toNat = 43 := fun e => h2 (UInt8.toNat_inj.1 e)
   have g1 : ((c.toNat : Int) == 42) = false := by rw [Bool.eq_false_iff]; simp; omega
   have g2 : ((c.toNat : Int) == 43) = false := by rw [Bool.eq_false_iff]; simp; omega
   clear key h1 h2
   go_enter Tryz.func136, Tryz.ntmps136
   go_wp2
   go_ret
   exact ⟨rfl, rfl⟩
/-- What a call of group does, of a text behind its bracket. -/
def GrpOk (b : Nat) (s : ByteArray) (op : Nat) (G : List UInt8 → PR RT) : Prop := ∀ (r : List UInt8) (W : World), Rg W b s (s.size - (r.length + 1)) op 0 0 → (40 :: r) <:+ s.data.toList →
 Calls Tryz.prog 138 #[.pointer (some ⟨b, 0, none⟩)] W (RdP (VN W.heap.size) GN b s op (G r) W)
/-- A tree that a callee handed back, stored as the result. -/
theorem VN.stored {w' : World} {g n0 : Nat} {t : RT} {nd : Nd} (h : TreeN w' (fun k => n0 ≤ k) t nd) (hg : g < n0) : VN g (put6 w' g nd) nd.val t :=
 ⟨nd, rfl, (h.put6 (fun k hk _ => by omega) nd).kept (fun _ _ _ => rfl) (fun k hk _ => by omega)⟩
set_option maxHeartbeats 8000000 in
set_option maxRecDepth 100000 in
theorem rthing_any (b : Nat) (s : ByteArray) (op : Nat) (G : List UInt8 → PR RT) (c : UInt8) (r : List UInt8) (w : World) (h : Rg w b s (s.size - (r.length + 1)) op 0 0) (hl : (c :: r) <:+ s.data.toList) (hs : s.size ≤ 100000) (hG : GrpOk b s op G) :
  Calls Tryz.prog 137 #[.pointer (some ⟨b, 0, none⟩)] w (RdP (VN w.heap.size) GN b s op (thingR withW notW orW G (c :: r)) w) := by
 have HB : Hid (b ≠ w.heap.size) := kH (by have := h.lt; omega)
 have hblt := h.lt
 obtain ⟨p, hp, hc, e1, e2, hr, hlen⟩ := rg_cons hl
 obtain ⟨c0, c1, c2, c3, c4, f1, f2, f3, f4⟩ := h.cells
 rw [e1] at c1
 have hpi : (p : Int) < (s.size : Int) := by omega
 have hpi2 : decide ((p : Int) < (s.size : Int)) = true := by simpa using hpi
 have hv : s[p] = c := hc
 have HL := kH (And.intro hr e2)
 have HR0 := kH h
 obtain ⟨NV, hNV⟩ : ∃ NV : Obj, NV = .cells #[.int .i64 0, .int .u64 0, .int .u64 0, .int .u64 0, .int .u64 0, .slice none 0 0] 100 := ⟨_, rfl⟩
 have GR := kH fun W (hc40 : c = 40) (H : Rg W b s (s.size - (r.length + 1)) op 0 0) => hG r W H (by rw [hc40] at hl; exact hl)
 have ST := kH fun W (hc91 : c = 91) (H : Rg W b s (s.size - (r.length + 1)) op 0 0) => rset_any b s op r W H (by rw [hc91] at hl; exact hl) hs
 have NX := kH fun W (H : Rg W b s (s.size - (r.length + 1)) op 0 0) => rnext_any b s op (c :: r) W H hl hs (by simp)
 have HE1 := kH e1
 have key : ∀ X, thingR withW notW orW G (c :: r) = X → Hid (Calls Tryz.prog 137 #[.pointer (some ⟨b, 0, none⟩)] w (RdP (VN w.heap.size) GN b s op X w)) → Calls Tryz.prog 137 #[.pointer (some ⟨b, 0, none⟩)] w (RdP (VN w.heap.size) GN b s op (thingR withW notW orW G (c :: r)) w) := fun X h k => by rw [h]; exact k.out
 have hcn : ∀ n : Nat, n < 256 → (c = UInt8.ofNat n ↔ c.toNat = n) := fun n hn => by rw [← UInt8.toNat_inj, UInt8.toNat_ofNat_of_lt' hn]
 have NT := kH rnot_x
 have WX := kH rwith_any
 clear h hl e1 e2 hr hG hNV NV hc
 by_cases h40 : c = 40
 ·
  have b40 : (c.toNat : Int) = 40 := by rw [h40]; rfl
  cases hX : G r with
  | error x =>
   obtain ⟨bd, er⟩ := x
   refine key (.error (bd, er)) (by simp only [thingR]; rw [if_pos h40]; exact hX) (kH ?_)
   have CC := kH fun W H => GR.out W h40 H
   rw [hX] at CC
   clear key hcn hX GR ST NX
   go_enter Tryz.func137, Tryz.ntmps137
   go_wp2_with fail
   go_quiet (fail)
   clear hv
   have HRA := kH ((HR0.out.alloc (.cells #[.int .i64 0, .int .u64 0, .int .u64 0, .int .u64 0, .int .u64 0, .slice none 0 0] 100)).drewN nq)
   have HOA := kH (((Onl.refl b w).alloc (.cells #[.int .i64 0, .int .u64 0, .int .u64 0, .int .u64 0, .int .u64 0, .slice none 0 0] 100)).drewN (n := nq))
   have HNA := kH ((BlkN.new w).drewN nq)
   have hwz : ((w.alloc (.cells #[.int .i64 0, .int .u64 0, .int .u64 0, .int .u64 0, .int .u64 0, .slice none 0 0] 100)).drewN nq).heap.size = w.heap.size + 1 := by simp
   have HWZ := kH hwz
   clear hwz HR0
   generalize (w.alloc (.cells #[.int .i64 0, .int .u64 0, .int .u64 0, .int .u64 0, .int .u64 0, .slice none 0 0] 100)).drewN nq = w1 at *
   go_wp2_with fail
   refine (CC.out w1 HRA.out).mono ?_
   rintro e w2 ⟨her, hbd, v, rfl, ⟨nd, rfl⟩, hr2, o2⟩
   have HE := kH (And.intro her hbd)
   have HR2 := kH hr2
   have HO2 := kH (HOA.out.trans o2)
   have HN2 := kH (HNA.out.onl o2 (fun e => HB.out e.symm))
   clear her hbd hr2 o2
   unfold Nd.val
   obtain ⟨d0, d1, d2, d3, d4, d5, k0, k1, k2, k3, k4, k5⟩ := HN2.out.cells
   go_wp2_with fail
   exact bodyPost_ret (v := nd.val) (by simp [results, Tryz.results137, go_sem, Nd.val, d0, d1, d2, d3, d4, d5]) rfl ⟨HE.out.1, HE.out.2, _, rfl, ⟨_, rfl⟩, HR2.out.put6 (fun e => HB.out e.symm) nd, HO2.out.put6 (Nat.le_refl _) nd⟩
  | ok x =>
   obtain ⟨t, r2⟩ := x
   refine key (.ok (t, r2)) (by simp only [thingR]; rw [if_pos h40]; exact hX) (kH ?_)
   have CC := kH fun W H => GR.out W h40 H
   rw [hX] at CC
   clear key hcn hX GR ST NX
   go_enter Tryz.func137, Tryz.ntmps137
   go_wp2_with fail
   go_quiet (fail)
   clear hv
   have HRA := kH ((HR0.out.alloc (.cells #[.int .i64 0, .int .u64 0, .int .u64 0, .int .u64 0, .int .u64 0, .slice none 0 0] 100)).drewN nq)
   have HOA := kH (((Onl.refl b w).alloc (.cells #[.int .i64 0, .int .u64 0, .int .u64 0, .int .u64 0, .int .u64 0, .slice none 0 0] 100)).drewN (n := nq))
   have HNA := kH ((BlkN.new w).drewN nq)
   have hwz : ((w.alloc (.cells #[.int .i64 0, .int .u64 0, .int .u64 0, .int .u64 0, .int .u64 0, .slice none 0 0] 100)).drewN nq).heap.size = w.heap.size + 1 := by simp
   have HWZ := kH hwz
   clear hwz HR0
   generalize (w.alloc (.cells #[.int .i64 0, .int .u64 0, .int .u64 0, .int .u64 0, .int .u64 0, .slice none 0 0] 100)).drewN nq = w1 at *
   go_wp2_with fail
   refine (CC.out w1 HRA.out).mono ?_
   rintro e w2 ⟨hs2, v, rfl, ⟨nd, rfl, ht⟩, hr2, o2⟩
   rw [HWZ.out] at ht
   have HE := kH (And.intro hs2 ht)
   have HR2 := kH hr2
   have HO2 := kH (HOA.out.trans o2)
   have HN2 := kH (HNA.out.onl o2 (fun e => HB.out e.symm))
   clear hs2 ht hr2 o2
   unfold Nd.val
   obtain ⟨d0, d1, d2, d3, d4, d5, k0, k1, k2, k3, k4, k5⟩ := HN2.out.cells
   go_wp2_with fail
   exact bodyPost_ret (v := nd.val) (by simp [results, Tryz.results137, go_sem, Nd.val, d0, d1, d2, d3, d4, d5]) rfl ⟨HE.out.1, _, rfl, VN.stored HE.out.2 (Nat.lt_succ_self _), HR2.out.put6 (fun e => HB.out e.symm) nd, HO2.out.put6 (Nat.le_refl _) nd⟩
 have n40 : ¬ c.toNat = 40 := fun e => h40 (UInt8.toNat_inj.1 e)
 have g40 : ((c.toNat : Int) == 40) = false := by rw [Bool.eq_false_iff]; simp; omega
 by_cases h91 : c = 91
 ·
  have b91 : (c.toNat : Int) = 91 := by rw [h91]; rfl
  cases hX : setR withW notW orW r with
  | error x =>
   obtain ⟨bd, er⟩ := x
   refine key (.error (bd, er)) (by simp only [thingR]; rw [if_neg h40, if_pos h91]; exact hX) (kH ?_)
   have CC := kH fun W H => ST.out W h91 H
   rw [hX] at CC
   clear key hcn hX GR ST NX
   go_enter Tryz.func137, Tryz.ntmps137
   go_wp2_with fail
   go_quiet (fail)
   clear hv
   have HRA := kH ((HR0.out.alloc (.cells #[.int .i64 0, .int .u64 0, .int .u64 0, .int .u64 0, .int .u64 0, .slice none 0 0] 100)).drewN nq)
   have HOA := kH (((Onl.refl b w).alloc (.cells #[.int .i64 0, .int .u64 0, .int .u64 0, .int .u64 0, .int .u64 0, .slice none 0 0] 100)).drewN (n := nq))
   have HNA := kH ((BlkN.new w).drewN nq)
   have hwz : ((w.alloc (.cells #[.int .i64 0, .int .u64 0, .int .u64 0, .int .u64 0, .int .u64 0, .slice none 0 0] 100)).drewN nq).heap.size = w.heap.size + 1 := by simp
   have HWZ := kH hwz
   clear hwz HR0
   generalize (w.alloc (.cells #[.int .i64 0, .int .u64 0, .int .u64 0, .int .u64 0, .int .u64 0, .slice none 0 0] 100)).drewN nq = w1 at *
   go_wp2_with fail
   refine (CC.out w1 HRA.out).mono ?_
   rintro e w2 ⟨her, hbd, v, rfl, ⟨nd, rfl⟩, hr2, o2⟩
   have HE := kH (And.intro her hbd)
   have HR2 := kH hr2
   have HO2 := kH (HOA.out.trans o2)
   have HN2 := kH (HNA.out.onl o2 (fun e => HB.out e.symm))
   clear her hbd hr2 o2
   unfold Nd.val
   obtain ⟨d0, d1, d2, d3, d4, d5, k0, k1, k2, k3, k4, k5⟩ := HN2.out.cells
   go_wp2_with fail
   exact bodyPost_ret (v := nd.val) (by simp [results, Tryz.results137, go_sem, Nd.val, d0, d1, d2, d3, d4, d5]) rfl ⟨HE.out.1, HE.out.2, _, rfl, ⟨_, rfl⟩, HR2.out.put6 (fun e => HB.out e.symm) nd, HO2.out.put6 (Nat.le_refl _) nd⟩
  | ok x =>
   obtain ⟨t, r2⟩ := x
   refine key (.ok (t, r2)) (by simp only [thingR]; rw [if_neg h40, if_pos h91]; exact hX) (kH ?_)
   have CC := kH fun W H => ST.out W h91 H
   rw [hX] at CC
   clear key hcn hX GR ST NX
   go_enter Tryz.func137, Tryz.ntmps137
   go_wp2_with fail
   go_quiet (fail)
   clear hv
   have HRA := kH ((HR0.out.alloc (.cells #[.int .i64 0, .int .u64 0, .int .u64 0, .int .u64 0, .int .u64 0, .slice none 0 0] 100)).drewN nq)
   have HOA := kH (((Onl.refl b w).alloc (.cells #[.int .i64 0, .int .u64 0, .int .u64 0, .int .u64 0, .int .u64 0, .slice none 0 0] 100)).drewN (n := nq))
   have HNA := kH ((BlkN.new w).drewN nq)
   have hwz : ((w.alloc (.cells #[.int .i64 0, .int .u64 0, .int .u64 0, .int .u64 0, .int .u64 0, .slice none 0 0] 100)).drewN nq).heap.size = w.heap.size + 1 := by simp
   have HWZ := kH hwz
   clear hwz HR0
   generalize (w.alloc (.cells #[.int .i64 0, .int .u64 0, .int .u64 0, .int .u64 0, .int .u64 0, .slice none 0 0] 100)).drewN nq = w1 at *
   go_wp2_with fail
   refine (CC.out w1 HRA.out).mono ?_
   rintro e w2 ⟨hs2, v, rfl, ⟨nd, rfl, ht⟩, hr2, o2⟩
   rw [HWZ.out] at ht
   have HE := kH (And.intro hs2 ht)
   have HR2 := kH hr2
   have HO2 := kH (HOA.out.trans o2)
   have HN2 := kH (HNA.out.onl o2 (fun e => HB.out e.symm))
   clear hs2 ht hr2 o2
   unfold Nd.val
   obtain ⟨d0, d1, d2, d3, d4, d5, k0, k1, k2, k3, k4, k5⟩ := HN2.out.cells
   go_wp2_with fail
   exact bodyPost_ret (v := nd.val) (by simp [results, Tryz.results137, go_sem, Nd.val, d0, d1, d2, d3, d4, d5]) rfl ⟨HE.out.1, _, rfl, VN.stored HE.out.2 (Nat.lt_succ_self _), HR2.out.put6 (fun e => HB.out e.symm) nd, HO2.out.put6 (Nat.le_refl _) nd⟩
 have n91 : ¬ c.toNat = 91 := fun e => h91 (UInt8.toNat_inj.1 e)
 have g91 : ((c.toNat : Int) == 91) = false := by rw [Bool.eq_false_iff]; simp; omega
 by_cases h46 : c = 46
 ·
  have b46 : (c.toNat : Int) = 46 := by rw [h46]; rfl
  refine key (.ok (.mk 1 (notW W4.zero) [], r)) (by simp only [thingR]; rw [if_neg h40]; rw [if_neg h91]; rw [if_pos h46]) (kH ?_)
  clear key hcn GR ST NX
  go_enter Tryz.func137, Tryz.ntmps137
  go_wp2_with fail
  go_quiet (fail)
  clear hv
  have hb0 : Hid (Onl b w ((((w.alloc (.cells #[.int .i64 0, .int .u64 0, .int .u64 0, .int .u64 0, .int .u64 0, .slice none 0 0] 100)).drewN nq)).setCell ⟨b, 1, none⟩ (.int .i64 ((p + 1 : Nat) : Int)))) := kH ((((Onl.refl b w).alloc _).drewN (n := nq)).setCell 1 _)
  have hr0 : Hid (Rg ((((w.alloc (.cells #[.int .i64 0, .int .u64 0, .int .u64 0, .int .u64 0, .int .u64 0, .slice none 0 0] 100)).drewN nq)).setCell ⟨b, 1, none⟩ (.int .i64 ((p + 1 : Nat) : Int))) b s (p + 1) op 0 0) := kH (((HR0.out.alloc _).drewN nq).setP (p + 1))
  have hn0 : Hid (BlkN ((((w.alloc (.cells #[.int .i64 0, .int .u64 0, .int .u64 0, .int .u64 0, .int .u64 0, .slice none 0 0] 100)).drewN nq)).setCell ⟨b, 1, none⟩ (.int .i64 ((p + 1 : Nat) : Int))) w.heap.size Nd.zero) := kH (((BlkN.new w).drewN nq).setNew (p := ⟨b, 1, none⟩) HB.out (.int .i64 ((p + 1 : Nat) : Int)))
  go_wp2_with fail
  rw [show ((p + 1 : Nat) : Int) = (p : Int) + 1 from rfl] at hb0 hr0 hn0
  generalize (((w.alloc (.cells #[.int .i64 0, .int .u64 0, .int .u64 0, .int .u64 0, .int .u64 0, .slice none 0 0] 100)).drewN nq)).setCell ⟨b, 1, none⟩ (.int .i64 ((p : Int) + 1)) = w1 at *
  refine (NT.out _ _ _ _ _).mono ?_
  rintro e w2 ⟨rfl, hb2⟩
  rw [show notW ⟨0, 0, 0, 0⟩ = notW W4.zero from rfl]
  obtain ⟨nz, hnz⟩ : ∃ nz, notW W4.zero = nz := ⟨_, rfl⟩
  rw [hnz]
  have HNZ := kH hnz
  clear hnz
  have HR2 := kH (hr0.out.below hb2)
  have HO2 := kH (hb0.out.trans (Onl.of_below hb2 (Nat.le_refl _)))
  have HN2 := kH (hn0.out.below hb2)
  clear hb2 hb0 hr0 hn0
  obtain ⟨d0, d1, d2, d3, d4, d5, k0, k1, k2, k3, k4, k5⟩ := HN2.out.cells
  go_wp2_with fail
  exact bodyPost_ret (v := (⟨1, nz, none, 0, 0⟩ : Nd).val) (by simp [results, Tryz.results137, go_sem, Nd.val, d0, d1, d2, d3, d4, d5]) rfl ⟨HL.out.1, _, rfl, ⟨_, rfl, by rw [HNZ.out]; exact TreeN.leaf _ _ 1 nz⟩, by rw [HL.out.2]; exact HR2.out.put6 (fun e => HB.out e.symm) ⟨1, nz, none, 0, 0⟩, HO2.out.put6 (Nat.le_refl _) ⟨1, nz, none, 0, 0⟩⟩
 have n46 : ¬ c.toNat = 46 := fun e => h46 (UInt8.toNat_inj.1 e)
 have g46 : ((c.toNat : Int) == 46) = false := by rw [Bool.eq_false_iff]; simp; omega
 by_cases h94 : c = 94
 ·
  have b94 : (c.toNat : Int) = 94 := by rw [h94]; rfl
  refine key (.ok (.mk 7 W4.zero [], r)) (by simp only [thingR]; rw [if_neg h40]; rw [if_neg h91]; rw [if_neg h46]; rw [if_pos h94]) (kH ?_)
  clear key hcn GR ST NX
  go_enter Tryz.func137, Tryz.ntmps137
  go_wp2_with fail
  go_quiet (fail)
  clear hv
  have HF : Hid (RdP (VN w.heap.size) GN b s op (.ok (.mk 7 W4.zero [], r)) w (.returned (⟨7, W4.zero, none, 0, 0⟩ : Nd).val) (put6 ((((w.alloc (.cells #[.int .i64 0, .int .u64 0, .int .u64 0, .int .u64 0, .int .u64 0, .slice none 0 0] 100)).drewN nq)).setCell ⟨b, 1, none⟩ (.int .i64 ((p + 1 : Nat) : Int))) w.heap.size ⟨7, W4.zero, none, 0, 0⟩)) := kH (by
   refine ⟨HL.out.1, _, rfl, ⟨_, rfl, TreeN.leaf _ _ 7 _⟩, ?_, ?_⟩
   ·
    rw [HL.out.2]
    exact Rg.put6 (((HR0.out.alloc _).drewN nq).setP (p + 1)) (fun e => HB.out e.symm) _
   ·
    exact Onl.put6 ((((Onl.refl b w).alloc _).drewN (n := nq)).setCell 1 _) (Nat.le_refl _) _)
  go_wp2_with fail
  exact bodyPost_ret (v := (⟨7, W4.zero, none, 0, 0⟩ : Nd).val) (by simp [results, Tryz.results137, go_sem, Nd.val, W4.zero]) rfl HF.out
 have n94 : ¬ c.toNat = 94 := fun e => h94 (UInt8.toNat_inj.1 e)
 have g94 : ((c.toNat : Int) == 94) = false := by rw [Bool.eq_false_iff]; simp; omega
 by_cases h36 : c = 36
 ·
  have b36 : (c.toNat : Int) = 36 := by rw [h36]; rfl
  refine key (.ok (.mk 8 W4.zero [], r)) (by simp only [thingR]; rw [if_neg h40]; rw [if_neg h91]; rw [if_neg h46]; rw [if_neg h94]; rw [if_pos h36]) (kH ?_)
  clear key hcn GR ST NX
  go_enter Tryz.func137, Tryz.ntmps137
  go_wp2_with fail
  go_quiet (fail)
  clear hv
  have HF : Hid (RdP (VN w.heap.size) GN b s op (.ok (.mk 8 W4.zero [], r)) w (.returned (⟨8, W4.zero, none, 0, 0⟩ : Nd).val) (put6 ((((w.alloc (.cells #[.int .i64 0, .int .u64 0, .int .u64 0, .int .u64 0, .int .u64 0, .slice none 0 0] 100)).drewN nq)).setCell ⟨b, 1, none⟩ (.int .i64 ((p + 1 : Nat) : Int))) w.heap.size ⟨8, W4.zero, none, 0, 0⟩)) := kH (by
   refine ⟨HL.out.1, _, rfl, ⟨_, rfl, TreeN.leaf _ _ 8 _⟩, ?_, ?_⟩
   ·
    rw [HL.out.2]
    exact Rg.put6 (((HR0.out.alloc _).drewN nq).setP (p + 1)) (fun e => HB.out e.symm) _
   ·
    exact Onl.put6 ((((Onl.refl b w).alloc _).drewN (n := nq)).setCell 1 _) (Nat.le_refl _) _)
  go_wp2_with fail
  exact bodyPost_ret (v := (⟨8, W4.zero, none, 0, 0⟩ : Nd).val) (by simp [results, Tryz.results137, go_sem, Nd.val, W4.zero]) rfl HF.out
 have n36 : ¬ c.toNat = 36 := fun e => h36 (UInt8.toNat_inj.1 e)
 have g36 : ((c.toNat : Int) == 36) = false := by rw [Bool.eq_false_iff]; simp; omega
 cases hX : nextR (c :: r) with
 | error x =>
  obtain ⟨bd, er⟩ := x
  refine key (.error (bd, er)) (by simp only [thingR]; rw [if_neg h40, if_neg h91, if_neg h46, if_neg h94, if_neg h36]; simp only [hX]) (kH ?_)
  have CC := NX
  rw [hX] at CC
  clear key hcn hX GR ST
  go_enter Tryz.func137, Tryz.ntmps137
  go_wp2_with fail
  go_quiet (fail)
  clear hv
  have HRA := kH ((HR0.out.alloc (.cells #[.int .i64 0, .int .u64 0, .int .u64 0, .int .u64 0, .int .u64 0, .slice none 0 0] 100)).drewN nq)
  have HOA := kH (((Onl.refl b w).alloc (.cells #[.int .i64 0, .int .u64 0, .int .u64 0, .int .u64 0, .int .u64 0, .slice none 0 0] 100)).drewN (n := nq))
  have HNA := kH ((BlkN.new w).drewN nq)
  have hwz : ((w.alloc (.cells #[.int .i64 0, .int .u64 0, .int .u64 0, .int .u64 0, .int .u64 0, .slice none 0 0] 100)).drewN nq).heap.size = w.heap.size + 1 := by simp
  have HWZ := kH hwz
  clear hwz HR0
  generalize (w.alloc (.cells #[.int .i64 0, .int .u64 0, .int .u64 0, .int .u64 0, .int .u64 0, .slice none 0 0] 100)).drewN nq = w1 at *
  go_wp2_with fail
  refine (CC.out w1 HRA.out).mono ?_
  rintro e w2 ⟨her, hbd, v, rfl, rfl, hr2, o2⟩
  have HE := kH (And.intro her hbd)
  have HR2 := kH hr2
  have HO2 := kH (HOA.out.trans o2)
  have HN2 := kH (HNA.out.onl o2 (fun e => HB.out e.symm))
  clear her hbd hr2 o2
  go_wp2_with fail
  refine (WX.out W4.zero (0 : UInt8) _).mono ?_
  obtain ⟨nz, hnz⟩ : ∃ nz, withW W4.zero 0 = nz := ⟨_, rfl⟩
  rw [hnz]
  rintro e w3 ⟨rfl, hb3⟩
  have HR3 := kH (HR2.out.below hb3)
  have HO3 := kH (HO2.out.trans (Onl.of_below hb3 (Nat.le_refl _)))
  have HN3 := kH (HN2.out.below hb3)
  clear hb3
  unfold W4.val
  obtain ⟨d0, d1, d2, d3, d4, d5, k0, k1, k2, k3, k4, k5⟩ := HN3.out.cells
  go_wp2_with fail
  exact bodyPost_ret (v := (⟨1, nz, none, 0, 0⟩ : Nd).val) (by simp [results, Tryz.results137, go_sem, Nd.val, d0, d1, d2, d3, d4, d5]) rfl ⟨HE.out.1, HE.out.2, _, rfl, ⟨_, rfl⟩, HR3.out.put6 (fun e => HB.out e.symm) ⟨1, nz, none, 0, 0⟩, HO3.out.put6 (Nat.le_refl _) ⟨1, nz, none, 0, 0⟩⟩
 | ok x =>
  obtain ⟨x, r2⟩ := x
  obtain ⟨nz, hnz⟩ : ∃ nz, withW W4.zero x = nz := ⟨_, rfl⟩
  refine key (.ok (.mk 1 nz [], r2)) (by simp only [thingR]; rw [if_neg h40, if_neg h91, if_neg h46, if_neg h94, if_neg h36]; simp only [hX]; rw [hnz]) (kH ?_)
  have CC := NX
  rw [hX] at CC
  have WX := kH fun W => by have := WX.out W4.zero x W; rw [hnz] at this; exact this
  clear hnz
  clear key hcn hX GR ST
  go_enter Tryz.func137, Tryz.ntmps137
  go_wp2_with fail
  go_quiet (fail)
  clear hv
  have HRA := kH ((HR0.out.alloc (.cells #[.int .i64 0, .int .u64 0, .int .u64 0, .int .u64 0, .int .u64 0, .slice none 0 0] 100)).drewN nq)
  have HOA := kH (((Onl.refl b w).alloc (.cells #[.int .i64 0, .int .u64 0, .int .u64 0, .int .u64 0, .int .u64 0, .slice none 0 0] 100)).drewN (n := nq))
  have HNA := kH ((BlkN.new w).drewN nq)
  have hwz : ((w.alloc (.cells #[.int .i64 0, .int .u64 0, .int .u64 0, .int .u64 0, .int .u64 0, .slice none 0 0] 100)).drewN nq).heap.size = w.heap.size + 1 := by simp
  have HWZ := kH hwz
  clear hwz HR0
  generalize (w.alloc (.cells #[.int .i64 0, .int .u64 0, .int .u64 0, .int .u64 0, .int .u64 0, .slice none 0 0] 100)).drewN nq = w1 at *
  go_wp2_with fail
  refine (CC.out w1 HRA.out).mono ?_
  rintro e w2 ⟨hs2, v, rfl, rfl, hr2, o2⟩
  have HE := kH hs2
  have HR2 := kH hr2
  have HO2 := kH (HOA.out.trans o2)
  have HN2 := kH (HNA.out.onl o2 (fun e => HB.out e.symm))
  clear hs2 hr2 o2
  go_wp2_with fail
  refine (WX.out _).mono ?_
  rintro e w3 ⟨rfl, hb3⟩
  have HR3 := kH (HR2.out.below hb3)
  have HO3 := kH (HO2.out.trans (Onl.of_below hb3 (Nat.le_refl _)))
  have HN3 := kH (HN2.out.below hb3)
  clear hb3
  unfold W4.val
  obtain ⟨d0, d1, d2, d3, d4, d5, k0, k1, k2, k3, k4, k5⟩ := HN3.out.cells
  go_wp2_with fail
  exact bodyPost_ret (v := (⟨1, nz, none, 0, 0⟩ : Nd).val) (by simp [results, Tryz.results137, go_sem, Nd.val, d0, d1, d2, d3, d4, d5]) rfl ⟨HE.out, _, rfl, ⟨_, rfl, TreeN.leaf _ _ 1 nz⟩, HR3.out.put6 (fun e => HB.out e.symm) ⟨1, nz, none, 0, 0⟩, HO3.out.put6 (Nat.le_refl _) ⟨1, nz, none, 0, 0⟩⟩
end Go.Proofs.YtmbfdkiejneheaaGreatDoor
