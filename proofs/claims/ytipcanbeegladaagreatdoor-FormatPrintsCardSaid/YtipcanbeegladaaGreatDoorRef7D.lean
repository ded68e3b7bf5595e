/-
  CONTRACT of the document's own answer for layer 7: Read (a conversion behind a percent sign): what it hands back; nothing that was there is written.
-/
import Derived.Test.YtipcanbeegladaaGreatDoorRef7B
import Derived.Test.YtipcanbeegladaaGreatDoorFmtW5b
import Derived.Deep.CutRange
import Derived.Deep.DeepCutAuto
namespace Go.Proofs.YtipcanbeegladaaGreatDoor
open Go.RowKit

/-- A conversion of the document's lies in block b, free to be written. -/
structure Sp (w : World) (b : Nat) (F : ByteArray) (wd pr : Int) (v : Int) (nx : Int) : Prop where
  c0 : w.cell? ⟨b, 0, none⟩ = some (.string F)
  c1 : w.cell? ⟨b, 1, none⟩ = some (.int .i64 wd)
  c2 : w.cell? ⟨b, 2, none⟩ = some (.int .i64 pr)
  c3 : w.cell? ⟨b, 3, none⟩ = some (.int .u8 v)
  c4 : w.cell? ⟨b, 4, none⟩ = some (.int .i64 nx)
  f0 : w.frozen? ⟨b, 0, none⟩ = false
  f1 : w.frozen? ⟨b, 1, none⟩ = false
  f2 : w.frozen? ⟨b, 2, none⟩ = false
  f3 : w.frozen? ⟨b, 3, none⟩ = false
  f4 : w.frozen? ⟨b, 4, none⟩ = false
theorem Sp.lt {w : World} {b : Nat} {F : ByteArray} {wd pr v nx : Int} (h : Sp w b F wd pr v nx) : b < w.heap.size := World.block_lt_of_cell? _ _ h.c0
theorem Sp.below {w w1 : World} {b B : Nat} {F : ByteArray} {wd pr v nx : Int} (h : Sp w b F wd pr v nx) (hB : Below B w w1) (hb : b < B) : Sp w1 b F wd pr v nx := by
  have hc : ∀ o, w1.cell? ⟨b, o, none⟩ = w.cell? ⟨b, o, none⟩ := fun o => hB.cell (p := ⟨b, o, none⟩) hb
  have hf : ∀ o, w1.frozen? ⟨b, o, none⟩ = w.frozen? ⟨b, o, none⟩ := fun o => hB.frozen (p := ⟨b, o, none⟩) hb
  obtain ⟨c0, c1, c2, c3, c4, f0, f1, f2, f3, f4⟩ := h
  constructor <;> (first | rw [hc] | rw [hf]) <;> assumption
theorem Sp.keep {w w1 : World} {b : Nat} {F : ByteArray} {wd pr v nx : Int} (h : Sp w b F wd pr v nx) (hB : Below w.heap.size w w1) : Sp w1 b F wd pr v nx := h.below hB h.lt
theorem Sp.only {w w1 : World} {b c : Nat} {F : ByteArray} {wd pr v nx : Int} (h : Sp w b F wd pr v nx) (hc : Only c w w1) (hne : b ≠ c) : Sp w1 b F wd pr v nx := by
  have e1 : ∀ o, w1.cell? ⟨b, o, none⟩ = w.cell? ⟨b, o, none⟩ := fun o => hc.cell (p := ⟨b, o, none⟩) h.lt hne
  have e2 : ∀ o, w1.frozen? ⟨b, o, none⟩ = w.frozen? ⟨b, o, none⟩ := fun o => hc.frozen (p := ⟨b, o, none⟩) h.lt hne
  obtain ⟨c0, c1, c2, c3, c4, f0, f1, f2, f3, f4⟩ := h
  constructor <;> (first | rw [e1] | rw [e2]) <;> assumption
theorem Sp.drew {w : World} {b : Nat} {F : ByteArray} {wd pr v nx : Int} (h : Sp w b F wd pr v nx) : Sp w.drew b F wd pr v nx := by
  obtain ⟨c0, c1, c2, c3, c4, f0, f1, f2, f3, f4⟩ := h
  exact ⟨c0, c1, c2, c3, c4, f0, f1, f2, f3, f4⟩
theorem Sp.new (w : World) (T : TypeId) (pr : Int) : Sp (w.alloc (.cells #[.string ⟨#[]⟩, .int .i64 0, .int .i64 pr, .int .u8 0, .int .i64 0] T)) w.heap.size ⟨#[]⟩ 0 pr 0 0 := by
  constructor <;> simp [go_sem]
theorem Sp.set0 {w : World} {b : Nat} {F : ByteArray} {wd pr v nx : Int} (h : Sp w b F wd pr v nx) (x : ByteArray) : Sp (w.setCell ⟨b, 0, none⟩ (.string x)) b x wd pr v nx := by
  obtain ⟨c0, c1, c2, c3, c4, f0, f1, f2, f3, f4⟩ := h
  constructor <;> first | (rw [World.cell?_setCell_other _ _ _ _ (by simp)]; assumption) | exact World.cell?_setCell_same _ _ _ (by assumption) | simpa
theorem Sp.set1 {w : World} {b : Nat} {F : ByteArray} {wd pr v nx : Int} (h : Sp w b F wd pr v nx) (x : Int) : Sp (w.setCell ⟨b, 1, none⟩ (.int .i64 x)) b F x pr v nx := by
  obtain ⟨c0, c1, c2, c3, c4, f0, f1, f2, f3, f4⟩ := h
  constructor <;> first | (rw [World.cell?_setCell_other _ _ _ _ (by simp)]; assumption) | exact World.cell?_setCell_same _ _ _ c1 | simpa
theorem Sp.set2 {w : World} {b : Nat} {F : ByteArray} {wd pr v nx : Int} (h : Sp w b F wd pr v nx) (x : Int) : Sp (w.setCell ⟨b, 2, none⟩ (.int .i64 x)) b F wd x v nx := by
  obtain ⟨c0, c1, c2, c3, c4, f0, f1, f2, f3, f4⟩ := h
  constructor <;> first | (rw [World.cell?_setCell_other _ _ _ _ (by simp)]; assumption) | exact World.cell?_setCell_same _ _ _ c2 | simpa
theorem Sp.set3 {w : World} {b : Nat} {F : ByteArray} {wd pr v nx : Int} (h : Sp w b F wd pr v nx) (x : Int) : Sp (w.setCell ⟨b, 3, none⟩ (.int .u8 x)) b F wd pr x nx := by
  obtain ⟨c0, c1, c2, c3, c4, f0, f1, f2, f3, f4⟩ := h
  constructor <;> first | (rw [World.cell?_setCell_other _ _ _ _ (by simp)]; assumption) | exact World.cell?_setCell_same _ _ _ c3 | simpa
theorem Sp.set4 {w : World} {b : Nat} {F : ByteArray} {wd pr v nx : Int} (h : Sp w b F wd pr v nx) (x : Int) : Sp (w.setCell ⟨b, 4, none⟩ (.int .i64 x)) b F wd pr v x := by
  obtain ⟨c0, c1, c2, c3, c4, f0, f1, f2, f3, f4⟩ := h
  constructor <;> first | (rw [World.cell?_setCell_other _ _ _ _ (by simp)]; assumption) | exact World.cell?_setCell_same _ _ _ c4 | simpa
def put5 (w : World) (b : Nat) (F : ByteArray) (wd pr v nx : Int) : World := ((((w.setCell ⟨b, 0, none⟩ (.string F)).setCell ⟨b, 1, none⟩ (.int .i64 wd)).setCell ⟨b, 2, none⟩ (.int .i64 pr)).setCell ⟨b, 3, none⟩ (.int .u8 v)).setCell ⟨b, 4, none⟩ (.int .i64 nx)
theorem Sp.put {w : World} {b : Nat} {F : ByteArray} {wd pr v nx : Int} (h : Sp w b F wd pr v nx) (F' : ByteArray) (wd' pr' v' nx' : Int) : Sp (put5 w b F' wd' pr' v' nx') b F' wd' pr' v' nx' :=
  ((((h.set0 F').set1 wd').set2 pr').set3 v').set4 nx'
theorem put5_below {B b : Nat} {w w3 : World} (h : Below B w w3) (hb : B ≤ b) (F' : ByteArray) (wd' pr' v' nx' : Int) : Below B w (put5 w3 b F' wd' pr' v' nx') :=
  ((((h.setCell (p := ⟨b, 0, none⟩) hb _).setCell (p := ⟨b, 1, none⟩) hb _).setCell (p := ⟨b, 2, none⟩) hb _).setCell (p := ⟨b, 3, none⟩) hb _).setCell (p := ⟨b, 4, none⟩) hb _
/-- A conversion's value, its sign a number. -/
def spi (F : ByteArray) (wd pr v nx : Int) : Value := .agg #[.string F, .int .i64 wd, .int .i64 pr, .int .u8 v, .int .i64 nx]
theorem rread_results (w : World) (b : Nat) (a : Array Value) (F : ByteArray) (wd pr v nx e : Int) (h : Sp w b F wd pr v nx) (h4 : a[4]?.getD undef = (.pointer (some ⟨b, 0, none⟩))) (h5 : a[5]?.getD undef = (.int .i64 e)) :
    (results Tryz.f14 a).run Tryz.prog w = .ok (.tuple #[spi F wd pr v nx, .int .i64 e]) w := by
  obtain ⟨c0, c1, c2, c3, c4, -⟩ := h
  simp [results, Tryz.results14, go_sem, spi, c0, c1, c2, c3, c4, h4, h5]
/-- What Read finds in its flags' loop. -/
structure RdL (f : ByteArray) (k : Nat) (w : World) (m : Nat) (F : ByteArray) (wr : World) : Prop where
  all : ∀ c ∈ (f.data.toList.drop k).take m, isF c = true
  eq : F.data.toList = (f.data.toList.drop k).take m
  res : Sp wr w.heap.size ⟨#[]⟩ 0 0 0 0
  own : Sp wr (w.heap.size + 1) F 0 (-1) 0 0
  below : Below w.heap.size w wr
theorem RdL.next {f : ByteArray} {k m : Nat} {w wr : World} {F : ByteArray} (h : RdL f k w m F wr) (hlt : k + m < f.size) (hc : isF f[k + m] = true) :
    RdL f k w (m + 1) (F ++ f.extract (k + m) (k + m + 1)) (wr.setCell ⟨w.heap.size + 1, 0, none⟩ (.string (F ++ f.extract (k + m) (k + m + 1)))) := by
  refine ⟨fun c hm => ?_, ?_, h.res.only ((Only.refl (w.heap.size + 1) wr).setCell 0 _) (by omega), h.own.set0 _, h.below.setCell (p := ⟨w.heap.size + 1, 0, none⟩) (Nat.le_succ _) _⟩
  · rw [rtake_next f k m hlt] at hm
    rcases List.mem_append.1 hm with hm | hm
    · exact h.all c hm
    · rw [List.mem_singleton.1 hm]; exact hc
  · rw [rtake_next f k m hlt, ba_app, h.eq, ByteArray.data_extract, Array.toList_extract]
    congr 1
    have hl : k + m < f.data.toList.length := by simpa using hlt
    rw [List.extract_eq_take_drop] 
    rw [show k + m + 1 - (k + m) = 1 by omega, List.drop_eq_getElem_cons hl]
    have h3 := at_list f (k + m) hlt
    rw [List.getElem?_eq_getElem hl] at h3
    rw [Option.some.inj h3]; rfl
theorem RdL.drew {f : ByteArray} {k m : Nat} {w wr : World} {F : ByteArray} (h : RdL f k w m F wr) : RdL f k w m F wr.drew := ⟨h.all, h.eq, h.res.drew, h.own.drew, h.below.drew⟩
theorem RdL.start (f : ByteArray) (k : Nat) (w : World) (T : TypeId) : RdL f k w 0 ⟨#[]⟩ ((w.alloc (.cells #[.string ⟨#[]⟩, .int .i64 0, .int .i64 0, .int .u8 0, .int .i64 0] T)).alloc (.cells #[.string ⟨#[]⟩, .int .i64 0, .int .i64 (-1), .int .u8 0, .int .i64 0] T)) := by
  refine ⟨by simp, by simp, (Sp.new w T 0).below ((Below.refl _ _).alloc (Nat.le_refl _) _) (by simp), ?_, ((Below.refl _ _).alloc (Nat.le_refl _) _).alloc (by simp) _⟩
  have := Sp.new (w.alloc (.cells #[.string ⟨#[]⟩, .int .i64 0, .int .i64 0, .int .u8 0, .int .i64 0] T)) T (-1)
  simpa using this
/-- Behind the flags: both conversions, the world. -/
structure RdM (w : World) (F : ByteArray) (wd pr v nx : Int) (wr : World) : Prop where
  res : Sp wr w.heap.size ⟨#[]⟩ 0 0 0 0
  own : Sp wr (w.heap.size + 1) F wd pr v nx
  below : Below w.heap.size w wr
theorem RdM.set1 {w wr : World} {F : ByteArray} {wd pr v nx : Int} (h : RdM w F wd pr v nx wr) (x : Int) : RdM w F x pr v nx (wr.setCell ⟨w.heap.size + 1, 1, none⟩ (.int .i64 x)) :=
  ⟨h.res.only ((Only.refl (w.heap.size + 1) wr).setCell 1 _) (by omega), h.own.set1 x, h.below.setCell (p := ⟨w.heap.size + 1, 1, none⟩) (Nat.le_succ _) _⟩
theorem RdM.set2 {w wr : World} {F : ByteArray} {wd pr v nx : Int} (h : RdM w F wd pr v nx wr) (x : Int) : RdM w F wd x v nx (wr.setCell ⟨w.heap.size + 1, 2, none⟩ (.int .i64 x)) :=
  ⟨h.res.only ((Only.refl (w.heap.size + 1) wr).setCell 2 _) (by omega), h.own.set2 x, h.below.setCell (p := ⟨w.heap.size + 1, 2, none⟩) (Nat.le_succ _) _⟩
theorem RdM.set3 {w wr : World} {F : ByteArray} {wd pr v nx : Int} (h : RdM w F wd pr v nx wr) (x : Int) : RdM w F wd pr x nx (wr.setCell ⟨w.heap.size + 1, 3, none⟩ (.int .u8 x)) :=
  ⟨h.res.only ((Only.refl (w.heap.size + 1) wr).setCell 3 _) (by omega), h.own.set3 x, h.below.setCell (p := ⟨w.heap.size + 1, 3, none⟩) (Nat.le_succ _) _⟩
theorem RdM.set4 {w wr : World} {F : ByteArray} {wd pr v nx : Int} (h : RdM w F wd pr v nx wr) (x : Int) : RdM w F wd pr v x (wr.setCell ⟨w.heap.size + 1, 4, none⟩ (.int .i64 x)) :=
  ⟨h.res.only ((Only.refl (w.heap.size + 1) wr).setCell 4 _) (by omega), h.own.set4 x, h.below.setCell (p := ⟨w.heap.size + 1, 4, none⟩) (Nat.le_succ _) _⟩
theorem RdM.keep {w wr w1 : World} {F : ByteArray} {wd pr v nx : Int} (h : RdM w F wd pr v nx wr) (hb : Below wr.heap.size wr w1) : RdM w F wd pr v nx w1 :=
  ⟨h.res.keep hb, h.own.keep hb, h.below.trans (hb.mono h.below.size)⟩
/-- What Read hands back, r standing behind the percent sign. -/
def RdPost (r : List UInt8) (k : Nat) (w : World) (e : Ending) (w' : World) : Prop :=
  (∃ F wd pr v nx, e = .returned (.tuple #[spi F wd pr v nx, .int .i64 (cvE r)]) ∧ (cvE r = 0 → F.data.toList = r.takeWhile isF ∧ wd = (cW r : Int) ∧ pr = (if dotL (cR1 r) then (cP r : Int) else -1) ∧ v = ((cvOf r).kind.toNat : Int) ∧ nx = ((k + (r.length - (cvT r).length) : Nat) : Int))) ∧ Below w.heap.size w w'
end Go.Proofs.YtipcanbeegladaaGreatDoor
