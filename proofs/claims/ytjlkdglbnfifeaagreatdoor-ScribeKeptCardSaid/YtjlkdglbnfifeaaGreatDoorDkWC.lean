/-
  CONTRACT of a file's crash: what is safe stays, and so much of what was appended behind it.
-/
import Derived.Test.YtjlkdglbnfifeaaGreatDoorDkWB
namespace Go.Proofs.YtjlkdglbnfifeaaGreatDoor
open Go.RowKit Go.Maps

variable {Fp : Nat → Prop} {w : World} {Bd mn ms : Nat} {vs : Nat → Value × Value} {d : DS} {m : Nat}
def crN (N S : Nm) (k : Nat) : Nm := if S.isPrefixOf N then N.take (S.length + min k (N.length - S.length)) else S
def crF (d : DS) (b k : Nat) : DS := { d with fs := upd d.fs b (crN (d.fs b).1 (d.fs b).2 k, crN (d.fs b).1 (d.fs b).2 k) }
def FcPost (Fp : Nat → Prop) (w : World) (Bd mn ms : Nat) (d' : DS) (m : Nat) (w' : World) : Prop := (∃ vs', DV Fp w' Bd mn ms vs' d' m) ∧ Oth Fp w w'
theorem upd_upd {α : Type} (f : Nat → α) (b : Nat) (x y : α) : upd (upd f b x) b y = upd f b y := by
  funext j; unfold upd; split <;> rfl
/-- The two stores that a crash ends in. -/
theorem crash_stores (h : DV Fp w Bd mn ms vs d m) {b : Nat} (hb : d.Has b) {p : Option Addr} {c : Nat} {K : Nm} (hK : K.length ≤ 1048576) (hKN : K.length ≤ (d.fs b).1.length)
    (s2 : Slot w (.slice p K.length c) K) (ho : ∀ g, (Value.slice p K.length c).ownBlock = some g → Own2 (vs b) g) :
    FcPost Fp w Bd mn ms { d with fs := upd d.fs b (K, K) } m ((w.setCell ⟨b, 1, none⟩ (.slice p K.length c)).setCell ⟨b, 0, none⟩ (.slice p K.length K.length)) := by
  have hf := h.files b hb
  have hl := h.lens b hb
  obtain ⟨h1, o1⟩ := h.setFC hb 1 (.slice p K.length c) (v := ((vs b).1, .slice p K.length c)) (N := (d.fs b).1) (S := K) rfl hf.s1 s2 (by
    rintro g (e | e)
    · exact .inl e
    · exact ho g e) hl.1 hK (fun _ _ _ => .inl hKN)
  have hb1 : DS.Has { d with fs := upd d.fs b ((d.fs b).1, K) } b := hb
  have hf1 := h1.files b hb1
  simp only [upd_same] at hf1
  obtain ⟨p', c', hv, hc, hS, hO⟩ := hf1.s2.cut (k := K.length) (Nat.le_refl _)
  have hp : p' = p := by simp at hv; exact hv.1.symm
  subst hp
  rw [List.take_length] at hS
  obtain ⟨h2, o2⟩ := h1.setFC hb1 0 (.slice p' K.length K.length) (v := (.slice p' K.length K.length, .slice p' K.length c)) (N := K) (S := K) (by simp only [upd_same]; rfl) hS hf1.s2 (by
    simp only [upd_same]
    rintro g (e | e)
    · exact .inr (by cases p' <;> exact e)
    · exact .inr e) hK hK (fun _ _ _ => .inl (Nat.le_refl _))
  have e : ({ d with fs := upd d.fs b (K, K) } : DS) = { ({ d with fs := upd d.fs b ((d.fs b).1, K) } : DS) with fs := upd (upd d.fs b ((d.fs b).1, K)) b (K, K) } := by
    simp only [upd_upd]
  exact ⟨⟨_, by rw [e]; exact h2⟩, o1.trans o2⟩
/-- The one store where the bytes now don't go on from the safe ones. -/
theorem crash_store (h : DV Fp w Bd mn ms vs d m) {b : Nat} (hb : d.Has b) {p : Option Addr} {c : Nat} (hv2 : (vs b).2 = .slice p (d.fs b).2.length c) :
    FcPost Fp w Bd mn ms { d with fs := upd d.fs b ((d.fs b).2, (d.fs b).2) } m (w.setCell ⟨b, 0, none⟩ (.slice p (d.fs b).2.length (d.fs b).2.length)) := by
  have hf := h.files b hb
  have hl := h.lens b hb
  obtain ⟨p', c', hv, hc, hS, hO⟩ := hf.s2.cut (k := (d.fs b).2.length) (Nat.le_refl _)
  have hp : p' = p := by rw [hv2] at hv; simp at hv; exact hv.1.symm
  subst hp
  rw [List.take_length] at hS
  obtain ⟨h2, o2⟩ := h.setFC hb 0 (.slice p' (d.fs b).2.length (d.fs b).2.length) (v := (.slice p' (d.fs b).2.length (d.fs b).2.length, (vs b).2)) (N := (d.fs b).2) (S := (d.fs b).2) rfl hS hf.s2 (by
    rintro g (e | e)
    · exact .inr (hO g e)
    · exact .inr e) hl.2 hl.2 (fun _ _ _ => .inl (Nat.le_refl _))
  exact ⟨⟨_, h2⟩, o2⟩
theorem drewS {w w' : World} {a b : Addr} {u v : Value} (h : w'.cell? a = some u ∧ w'.cell? b = some v ∧ w' = w.drew) : w'.cell? a = some u ∧ w'.cell? b = some v ∧ w' = w.drew := h
set_option maxHeartbeats 4000000 in
set_option maxRecDepth 100000 in
theorem fcrash_any (h : DV Fp w Bd mn ms vs d m) {b : Nat} (hb : d.Has b) (k : Nat) (hk : k ≤ 9223372036854775807) :
    Calls Tryz.prog 25 #[.pointer (some ⟨b, 0, none⟩), .int .i64 k] w fun e w' => e = .returned (.tuple #[]) ∧ FcPost Fp w Bd mn ms (crF d b k) m w' := by
  have hf := h.files b hb
  have hl := h.lens b hb
  have f0 := hf.c0
  have f1 := hf.c1
  have z0 := hf.fz 0
  have z1 := hf.fz 1
  have hd1 : DV Fp w.drew Bd mn ms vs d m := h.kept (fun _ _ _ => rfl)
  have HC := hasp_any (w := w.drew) (hd1.files b hb).s1 (hd1.files b hb).s2 hl.1 hl.2
  unfold crF
  cases hpre : (d.fs b).2.isPrefixOf (d.fs b).1 with
  | false =>
    have hcr : crN (d.fs b).1 (d.fs b).2 k = (d.fs b).2 := by unfold crN; rw [hpre]; rfl
    rw [hcr]
    rw [hpre] at HC
    obtain ⟨q, c2, hq, hc2, _⟩ := hf.s2.form
    obtain ⟨p, c1, hp, _, _⟩ := hf.s1.form
    have HE := Lib.hid (crash_store hd1 hb hq)
    have hqn : q = none → (d.fs b).2.length = 0 := by
      rintro rfl
      rcases hf.s2 with ⟨_, e⟩ | ⟨g, cap, cur, e, _⟩
      · rw [e]; rfl
      · rw [hq] at e; simp at e
    have CC := Lib.hid (fun w => clip_any q (d.fs b).2.length c2 hc2 hl.2 hqn w)
    rw [hp, hq] at HC
    rw [hp] at f0
    rw [hq] at f1
    generalize hD : ({ d with fs := upd d.fs b ((d.fs b).2, (d.fs b).2) } : DS) = D at *
    generalize (d.fs b).1.length = n1 at *
    generalize (d.fs b).2.length = n2 at *
    have hs := And.intro f0 (And.intro f1 (Eq.refl w.drew))
    clear h hf hd1 hpre hcr hp hq hqn
    go_enter Tryz.func25, Tryz.ntmps25
    go_wp2
    go_region_held3 (fun w' => w'.cell? ⟨b, 0, none⟩ = some (.slice p n1 c1) ∧ w'.cell? ⟨b, 1, none⟩ = some (.slice q n2 c2) ∧ w' = w.drew) (first | assumption | exact ⟨f0, f1, rfl⟩) (first | ((with_reducible refine (HC).mono ?_); rintro e w8 ⟨rfl, rfl⟩))
    all_goals
      clear HC
      go_wp2_with fail
      refine (CC.out _).mono ?_
      rintro e w9 ⟨rfl, rfl⟩
      go_wp2
      go_end0
      exact ⟨rfl, HE.out.1, (Oth.refl Fp w).drew.trans HE.out.2⟩
  | true =>
    obtain ⟨M, hM1, hM2⟩ : ∃ M : Nat, min (k : Int) (((d.fs b).1.length - (d.fs b).2.length : Nat) : Int) = (M : Int) ∧ (d.fs b).2.length + M ≤ (d.fs b).1.length ∧ crN (d.fs b).1 (d.fs b).2 k = (d.fs b).1.take ((d.fs b).2.length + M) := by
      have hle : (d.fs b).2.length ≤ (d.fs b).1.length := by
        rw [List.isPrefixOf_iff_prefix] at hpre
        exact hpre.length_le
      refine ⟨min k ((d.fs b).1.length - (d.fs b).2.length), by omega, by omega, ?_⟩
      unfold crN
      rw [hpre]; rfl
    rw [hM2.2]
    have hM2' := hM2.1
    have hKl : ((d.fs b).1.take ((d.fs b).2.length + M)).length = (d.fs b).2.length + M := by simp; omega
    obtain ⟨q, c2, hq, hc2, _⟩ := hf.s2.form
    obtain ⟨p, c1, hp, hc1, hm1⟩ := hf.s1.form
    have hs2 : Slot w (.slice p ((d.fs b).2.length + M) c1) ((d.fs b).1.take ((d.fs b).2.length + M)) := by
      rcases hf.s1 with ⟨e, e2⟩ | ⟨g, cap, cur, e, h0⟩
      · rw [hp] at e
        simp at e
        have : (d.fs b).2.length + M = 0 := by have := hM2'; rw [e2] at this; simpa using this
        rw [this, List.take_zero, e.1, e.2.2]
        exact .inl ⟨rfl, rfl⟩
      · rw [hp] at e
        simp at e
        rw [e.1]
        exact Slot.first (n := (d.fs b).1.length) (cap := c1) (.inr ⟨g, cap, cur, by rw [e.2], h0⟩) hM2' (by omega) (Nat.le_refl _)
    have HE : Hid (∀ W : World, W.heap = w.heap → W.os = w.os → W.tape = w.tape → W.output = w.output → FcPost Fp w Bd mn ms { d with fs := upd d.fs b ((d.fs b).1.take ((d.fs b).2.length + M), (d.fs b).1.take ((d.fs b).2.length + M)) } m ((W.setCell ⟨b, 1, none⟩ (.slice p ((d.fs b).2.length + M) c1)).setCell ⟨b, 0, none⟩ (.slice p ((d.fs b).2.length + M) ((d.fs b).2.length + M)))) := by
      refine Lib.hid ?_
      intro W e1 e2 e3 e4
      have hW : DV Fp W Bd mn ms vs d m := h.kept (fun j _ _ => by rw [e1])
      have hOW : Oth Fp w W := ⟨e2, e3, e4, by rw [e1]; exact Nat.le_refl _, fun k _ _ => by rw [e1]⟩
      have := crash_stores hW hb (p := p) (c := c1) (K := (d.fs b).1.take ((d.fs b).2.length + M)) (by rw [hKl]; omega) (by rw [hKl]; omega) (by rw [hKl]; exact hs2.kept (fun g _ => by rw [e1])) (by
        intro g hg
        refine .inl ?_
        rw [hp]
        rw [hKl] at hg
        cases p <;> exact hg)
      rw [hKl] at this
      exact ⟨this.1, hOW.trans this.2⟩
    have hpn : p = none → (d.fs b).2.length + M = 0 := by
      rintro rfl
      rcases hf.s1 with ⟨_, e⟩ | ⟨g, cap, cur, e, _⟩
      · have := hM2'; rw [e] at this; simpa using this
      · rw [hp] at e; simp at e
    have hn0 : p = none → (d.fs b).1.length = 0 := by
      rintro rfl
      rcases hf.s1 with ⟨_, e⟩ | ⟨g, cap, cur, e, _⟩
      · rw [e]; rfl
      · rw [hp] at e; simp at e
    have CC := Lib.hid (fun w => clip_any p ((d.fs b).2.length + M) c1 (by omega) (by omega) hpn w)
    rw [hpre, hp, hq] at HC
    rw [hp] at f0
    rw [hq] at f1
    generalize hD : ({ d with fs := upd d.fs b ((d.fs b).1.take ((d.fs b).2.length + M), (d.fs b).1.take ((d.fs b).2.length + M)) } : DS) = D at *
    generalize (d.fs b).1.length = n1 at *
    generalize (d.fs b).2.length = n2 at *
    have hs := And.intro f0 (And.intro f1 (Eq.refl w.drew))
    clear h hf hd1 hpre hM2 hKl hs2 hp hq
    cases p with
    | none =>
      have hz := hpn rfl
      obtain rfl : n2 = 0 := by omega
      obtain rfl : M = 0 := by omega
      have hn1 : n1 = 0 := hn0 rfl
      subst hn1
      have hk0 : min (k : Int) 0 = 0 := by omega
      rw [Nat.add_zero] at HE CC
      clear hpn hn0 hz
      go_enter Tryz.func25, Tryz.ntmps25
      go_wp2
      go_region_held3 (fun w' => w'.cell? ⟨b, 0, none⟩ = some (.slice none 0 c1) ∧ w'.cell? ⟨b, 1, none⟩ = some (.slice q 0 c2) ∧ w' = w.drew) (first | assumption | exact ⟨f0, f1, rfl⟩) (first | ((with_reducible refine (HC).mono ?_); rintro e w8 ⟨rfl, rfl⟩))
      all_goals
        clear HC
        go_wp2
        go_region
        all_goals
          go_wp2
          go_region
          all_goals
            go_wp2_with fail
            refine (CC.out _).mono ?_
            rintro e w9 ⟨rfl, rfl⟩
            go_wp2
            go_end0
            exact ⟨rfl, HE.out w.drew.drew.drew rfl rfl rfl rfl⟩
    | some a =>
      clear hpn hn0
      by_cases hcc : c1 = n2
      · have hcc2 := hcc.symm
        subst hcc2
        obtain rfl : M = 0 := by omega
        have hk0 : min (k : Int) 0 = 0 := by omega
        rw [Nat.add_zero] at HE CC
        go_enter Tryz.func25, Tryz.ntmps25
        go_wp2
        go_region_held3 (fun w' => w'.cell? ⟨b, 0, none⟩ = some (.slice (some a) n1 n2) ∧ w'.cell? ⟨b, 1, none⟩ = some (.slice q n2 c2) ∧ w' = w.drew) (first | assumption | exact ⟨f0, f1, rfl⟩) (first | ((with_reducible refine (HC).mono ?_); rintro e w8 ⟨rfl, rfl⟩))
        all_goals
          clear HC
          go_wp2
          go_region
          all_goals
            go_wp2
            go_region
            all_goals
              go_wp2_with fail
              refine (CC.out _).mono ?_
              rintro e w9 ⟨rfl, rfl⟩
              go_wp2
              go_end0
              exact ⟨rfl, HE.out w.drew.drew.drew rfl rfl rfl rfl⟩
      · skip
        go_enter Tryz.func25, Tryz.ntmps25
        go_wp2
        go_region_held3 (fun w' => w'.cell? ⟨b, 0, none⟩ = some (.slice (some a) n1 c1) ∧ w'.cell? ⟨b, 1, none⟩ = some (.slice q n2 c2) ∧ w' = w.drew) (first | assumption | exact ⟨f0, f1, rfl⟩) (first | ((with_reducible refine (HC).mono ?_); rintro e w8 ⟨rfl, rfl⟩))
        all_goals
          clear HC
          go_wp2
          go_region
          all_goals
            go_wp2
            go_region
            all_goals
              go_wp2_with fail
              refine (CC.out _).mono ?_
              rintro e w9 ⟨rfl, rfl⟩
              go_wp2
              go_end0
              exact ⟨rfl, HE.out w.drew.drew.drew rfl rfl rfl rfl⟩
end Go.Proofs.YtjlkdglbnfifeaaGreatDoor
