/-
  CONTRACT of layer 8's readEntry, over the bytes that Write wrote: a Reader and, newer than it, an array that grows.
-/
import Derived.Test.YtjnhaglcigpknaaDoorArGet
import Derived.Test.YtjnhaglcigpknaaDoorArWrQ
namespace Go.Proofs.YtjnhaglcigpknaaDoor
open Go.RowKit Go.Maps
attribute [local go_sem] Oper.semAt_some

/-- A Reader that was there, an array in new blocks; of what was there the Reader alone has turned. -/
structure RE (w0 : World) (rb b : Nat) (s : ByteArray) (i d : Nat) (P : List Pr) (W : World) : Prop where
  rd : Rd W rb s i d 0
  af : AF (fun k => w0.heap.size ≤ k) W b P
  only : Only rb w0 W
  lt : rb < w0.heap.size
section
variable {w0 W W' : World} {rb b : Nat} {s : ByteArray} {i d : Nat} {P : List Pr}
theorem RE.next (h : RE w0 rb b s i d P W) (hb : Below W.heap.size W W') : RE w0 rb b s i d P W' :=
  ⟨h.rd.below hb h.rd.lt, h.af.next hb, h.only.trans (Only.of_below hb (Nat.le_refl _)), h.lt⟩
theorem RE.read (h : RE w0 rb b s i d P W) {j e : Nat} (hr : Rd W' rb s j e 0) (ho : Only rb W W') : RE w0 rb b s j e P W' := by
  refine ⟨hr, ?_, h.only.trans ho, h.lt⟩
  obtain ⟨mm, L, h1, h2, h3⟩ := h.af
  exact ⟨mm, L, h1.kept fun k hk => ho.block k (h1.own_lt hk) (by have := h3 k hk; have := h.lt; omega), h2, h3⟩
theorem RE.set {Q : List Pr} (h : RE w0 rb b s i d P W) (hs : SeR (fun k => w0.heap.size ≤ k) W b Q W') : RE w0 rb b s i d Q W' := by
  have hsz := h.only.size
  have hlt := h.lt
  have hbl : W'.heap[rb]? = W.heap[rb]? := hs.2.block rb h.rd.lt (by omega)
  refine ⟨?_, hs.1.mono fun k _ hk => hk.elim id fun hk => Nat.le_trans hsz hk, ⟨hs.2.os.trans h.only.os, hs.2.tape.trans h.only.tape, hs.2.output.trans h.only.output, Nat.le_trans hsz hs.2.size, fun k hk hn => (hs.2.block k (by omega) (by omega)).trans (h.only.block k hk hn)⟩, hlt⟩
  have c : ∀ o, W'.cell? ⟨rb, o, none⟩ = W.cell? ⟨rb, o, none⟩ := fun o => World.cell?_of_block (a := ⟨rb, o, none⟩) hbl
  have f : ∀ o, W'.frozen? ⟨rb, o, none⟩ = W.frozen? ⟨rb, o, none⟩ := fun o => World.frozen?_of_block (a := ⟨rb, o, none⟩) hbl
  exact ⟨(c 0).trans h.rd.s, (c 1).trans h.rd.a, (c 2).trans h.rd.o, (c 3).trans h.rd.e, (f 1).trans h.rd.f1, (f 2).trans h.rd.f2, (f 3).trans h.rd.f3⟩
theorem RE.has (h : RE w0 rb b s i d P W) (k : ByteArray) (hk : k.size ≤ 1000000) :
    Calls Tryd.prog 41 #[.pointer (some ⟨b, 0, none⟩), .string k] W fun e w' => e = .returned (.bool (hasP P k)) ∧ Below W.heap.size W w' := by
  obtain ⟨mm, L, h1, rfl, _⟩ := h.af
  rw [← fnd_has]
  exact has_any h1 k hk
theorem RE.put (h : RE w0 rb b s i d P W) (k : ByteArray) (hk : k.size ≤ 1000000) (t : Ce) (ht : t.s.size ≤ 1000000) (hl : P.length + 1 ≤ 1000) :
    Calls Tryd.prog 16 #[.pointer (some ⟨b, 0, none⟩), .string k, .agg #[.int .i64 t.k, .int .i64 t.n, .string t.s]] W fun e w' => e = .returned (.tuple #[]) ∧ RE w0 rb b s i d (putP P k t) w' :=
  (aset_any h.af k hk t ht hl).mono fun _ _ ⟨h1, h2⟩ => ⟨h1, h.set h2⟩
end
def goodE (e : En) : Prop := GoodC e.c.k e.c.n e.c.s ∧ e.key.size ≤ 4000 ∧ e.c.s.size ≤ 4000
theorem encE_at {s : ByteArray} {i : Nat} {x : En} {R : List UInt8} (h : At s i (encE x ++ R)) : At s i (pT x.key ++ (encC x.c ++ R)) := by
  unfold encE at h
  rwa [List.append_assoc] at h
set_option maxRecDepth 100000 in
set_option maxHeartbeats 4000000 in
theorem rentry_any {w0 W : World} {rb b : Nat} {s : ByteArray} {i d : Nat} {P : List Pr} (h : RE w0 rb b s i d P W) (x : En) (R : List UInt8) (hat : At s i (encE x ++ R)) (hg : goodE x) (hi : i ≤ s.size) (hsz : s.size ≤ 100000) (hn : hasP P x.key = false) (hl : P.length + 1 ≤ 1000) :
    Calls Tryd.prog 24 #[.pointer (some ⟨b, 0, none⟩), .pointer (some ⟨rb, 0, none⟩)] W fun e w' => e = .returned (.int .i64 0) ∧ RE w0 rb b s (i + (encE x).length) d (putP P x.key x.c) w' := by
  have hat1 := encE_at hat
  have et := text_read (most := 4000) hat1 hg.2.1 (by have := hg.2.1; omega)
  have hat2 := hat1.tail
  have hle := hat1.len (by simp [pT])
  have hlen : i + (pT x.key).length + (encC x.c).length = i + (encE x).length := by unfold encE; rw [List.length_append]; omega
  have HR := Lib.hid h
  have C1 := Lib.hid (Text_any rb s i d 0 4000 W h.rd hi (by omega))
  rw [et] at C1
  have CG := Lib.hid (fun W' (h : Rd W' rb s (i + (pT x.key).length) d 0) => aget_any rb s (i + (pT x.key).length) R x.c W' h hat2 hg.1 hg.2.2 hsz (by omega))
  have HG := Lib.hid hg
  have hks : x.key.size ≤ 1000000 := by have := hg.2.1; omega
  have hcs : x.c.s.size ≤ 1000000 := by have := hg.2.2; omega
  have hNN := Lib.hid hn
  clear h hat hat1 et hat2 hg hn
  go_enter Tryd.func24, Tryd.ntmps24
  go_wp2_with fail
  refine C1.out.mono ?_
  rintro e w1 ⟨rfl, hr1, ho1⟩
  have HR1 := Lib.hid (HR.out.read hr1 ho1)
  clear hr1 ho1 C1 HR
  go_wp2_with fail
  refine (CG.out _ HR1.out.rd).mono ?_
  rintro e w2 ⟨rfl, hr2, ho2⟩
  have HR2 := Lib.hid (HR1.out.read hr2 ho2)
  rw [hlen] at HR2
  clear hr2 ho2 CG HR1
  go_wp2_with fail
  have hba : Below w2.heap.size w2 (w2.alloc (.cells #[.int .i64 x.c.k, .int .i64 x.c.n, .string x.c.s] 46)) := (Below.refl _ _).alloc (Nat.le_refl _) _
  obtain ⟨q0, q1, q2⟩ := box3 (k := x.c.k) (n := x.c.n) (s := x.c.s) w2 46
  have hz3 : w2.heap.size < (w2.alloc (.cells #[.int .i64 x.c.k, .int .i64 x.c.n, .string x.c.s] 46)).heap.size := by simp
  have HR3 := Lib.hid (HR2.out.next hba)
  generalize w2.alloc (.cells #[.int .i64 x.c.k, .int .i64 x.c.n, .string x.c.s] 46) = W3 at *
  have CH := HR3.out.has x.key hks
  rw [hNN.out] at CH
  have CH := Lib.hid CH
  clear hba HR2
  refine CH.out.mono ?_
  rintro e w4 ⟨rfl, hb4⟩
  have HR4 := Lib.hid (HR3.out.next hb4)
  have z0 := (hb4.cell (p := ⟨w2.heap.size, 0, none⟩) hz3).trans q0
  have z1 := (hb4.cell (p := ⟨w2.heap.size, 1, none⟩) hz3).trans q1
  have z2 := (hb4.cell (p := ⟨w2.heap.size, 2, none⟩) hz3).trans q2
  clear hb4 q0 q1 q2 HR3 CH
  go_wp2_with fail
  refine (HR4.out.put x.key hks x.c hcs hl).mono ?_
  rintro e w5 ⟨rfl, hr5⟩
  go_wp2_with fail
  go_ret
  exact ⟨rfl, hr5⟩
end Go.Proofs.YtjnhaglcigpknaaDoor
